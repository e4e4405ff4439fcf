
/- BitsLight: for all bytes. -/
import Derived.Test.YtpnancidgobehaaDoorYa
set_option linter.all false
set_option maxRecDepth 100000
namespace Go.Proofs.YtpnancidgobehaaDoor
open Go.RowKit
set_option maxHeartbeats 8000000 in
theorem BitsLight_any (pn pm : Option Addr) (nn cn nm cm col : Nat) (hcol : col ≤ 255) (w : World) (hN : GivenI w pn nn cn) (hM : GivenI w pm nm cm) (hT : Tabbed w) :
    Calls Tryd.prog 9 #[.slice pn nn cn, .slice pm nm cm, .int .u8 (col : Int)] w (Gives (.bool true) w) := by
  have HN := Lib.hid hN
  have HM := Lib.hid hM
  have HT := Lib.hid hT
  clear hN hM hT
  go_enter Tryd.func9, Tryd.ntmps9
  go_wp2_with fail
  refine (Of_anyI _ _ _ _ HM.out).mono ?_
  rintro e w1 ⟨bs, rfl, hbs, hS1, hb1⟩
  have HS1 := Lib.hid hS1
  have HB1 := Lib.hid hb1
  clear hS1 hb1
  obtain ⟨n, hn⟩ : ∃ n : Nat, 1 + (col : Int) % 12 = n := ⟨1 + col % 12, by omega⟩
  have hn1 : 1 ≤ n ∧ n ≤ 12 := by omega
  go_wp2_with fail
  refine (Of_anyI _ _ _ _ (HN.out.below HB1.out)).mono ?_
  rintro e w2 ⟨b2, rfl, hb2, hS2, hB2⟩
  have HS1' := Lib.hid (HS1.out.below hB2)
  have hsz1 := HB1.out.size
  have hsz2 := hB2.size
  have hlt1 := HS1.out.1.2.1
  have hlt2 := hS2.1.2.1
  have HB2 := Lib.hid (bl_then HB1.out (bl_wider hB2 HB1.out.size))
  have HS2 := Lib.hid hS2
  clear hS2 hB2 HS1 HB1 HN HM
  go_wp2_with fail
  refine (lw_Made _ _ _ _ n 8 (by omega) (by omega) (by omega) _ HS2.out).mono ?_
  intro e w3 hmade
  obtain ⟨v, l, rfl, hl8, hM3, _, hbes⟩ := made_at hmade HB2.out (by omega)
  obtain ⟨p, c, rfl, hints⟩ := hM3.own.ints
  rw [casts_len]
  have hS3 := HS1'.out.below (hbes.below hb2 (by omega))
  have HS3 := Lib.hid hS3
  have HM3 := Lib.hid hM3
  clear hS3 hM3 hints hbes hmade HS1' HS2 HB2
  have hpw := pow_wrap (show n < 40 by omega)
  have hpx : IntKind.i64.wrap ((2 : Int) ^ n) = ((2 ^ n : Nat) : Int) := (IntWalk.i64_left _).trans hpw
  have hpl := pow_wrap (show l.length < 40 by omega)
  have hply : IntKind.i64.wrap ((2 : Int) ^ l.length) = ((2 ^ l.length : Nat) : Int) := (IntWalk.i64_left _).trans hpl
  have hpn : (2 ^ n : Nat) ≤ 65536 := Nat.pow_le_pow_right (by omega) (show n ≤ 16 by omega)
  have hp0 := Nat.two_pow_pos n
  have hqn : (2 ^ l.length : Nat) ≤ 256 := Nat.pow_le_pow_right (by omega) (show l.length ≤ 8 by omega)
  have hq0 := Nat.two_pow_pos l.length
  obtain ⟨q, hq⟩ : ∃ q, 2 ^ n = q := ⟨_, rfl⟩
  have HQ : Hid (2 ^ n = q) := hq
  obtain ⟨r, hr⟩ : ∃ r, 2 ^ l.length = r := ⟨_, rfl⟩
  have HR : Hid (2 ^ l.length = r) := hr
  rw [hq] at hpw hpx hpn hp0
  rw [hr] at hpl hply hqn hq0
  clear hq hr
  go_wp2_with fail
  (try rw [hpw])
  (try rw [hpx])
  refine (less_anyI _ _ _ _ _ _ (by decide) (in_u32 hp0 hpn) HS3.out).mono ?_
  rintro e w4 ⟨_, rfl, ⟨z, rfl, z0, z1⟩, hS, hB⟩
  obtain ⟨x, rfl⟩ : ∃ x : Nat, z = x := ⟨z.toNat, by omega⟩
  have HM4 := Lib.hid (HM3.out.beside hB hbs (by omega))
  have HS4 := Lib.hid hS
  clear hS hB HS3 HM3
  go_wp2_with fail
  (try rw [hpl])
  (try rw [hply])
  refine (less_anyI _ _ _ _ _ _ (by decide) (in_u32 hq0 (Nat.le_trans hqn (by decide))) HS4.out).mono ?_
  rintro e w5 ⟨_, rfl, ⟨z, rfl, y0, y1⟩, _, hB⟩
  obtain ⟨k, rfl⟩ : ∃ k : Nat, z = k := ⟨z.toNat, by omega⟩
  have hM5 := HM4.out.beside hB hbs (by omega)
  have HI := Lib.hid hM5.ints
  have HW := Lib.hid hM5.bel
  have HLT := Lib.hid hM5.lt
  have HTT := Lib.hid (HT.out.below hM5.bel)
  have HPW := Lib.hid (And.intro hpw hpx)
  have HPL := Lib.hid (And.intro hpl hply)
  clear hB HS4 HM4 hM5 hpw hpx hpl hply hn hsz1 hsz2 hlt1 hlt2 hb2 hbs
  have HTo : Hid (∀ (which : Nat), which < 4611686018427387904 → ∀ w', Below w5.heap.size w5 w' → Calls Tryd.prog 18 #[.slice p l.length c, .int .i64 (which : Int)] w' (Gives (.int .i64 ((tot l which : Nat) : Int)) w')) := fun which hw w' hb => by
    rw [← prod_tot]
    exact lw_total l (by omega) (lt24 (by omega) HLT.out) which hw p c w' (HI.out.below hb)
  obtain ⟨o, ho⟩ : ∃ o, tot l k = o := ⟨_, rfl⟩
  have hxq : x < 2 ^ n := by rw [HQ.out]; omega
  have hoq : o < 2 ^ n := ho ▸ (tot_in l k).lt HLT.out
  have hL := light_facts (k := k) HLT.out (by omega) (by omega) hxq _ rfl
  rw [ho] at hL
  have HTk := HTo.out k (by omega)
  rw [ho] at HTk
  have HTK := Lib.hid HTk
  clear HTk
  have HC1 : Hid (∀ w', Below w5.heap.size w5 w' → Calls Tryd.prog 40 #[.slice p l.length c, .int .i64 (n : Int), .int .i64 (x : Int)] w' (Gives (.tuple #[.int .i64 (cosetR (redR l n) x : Nat), .int .i64 0]) w')) := fun w' hb => coset_call hn1.1 (by omega) (by omega) HLT.out hxq (HI.out.below hb) (HTT.out.below hb)
  have HC2 : Hid (∀ w', Below w5.heap.size w5 w' → Calls Tryd.prog 40 #[.slice p l.length c, .int .i64 (n : Int), .int .i64 ((x ^^^ o : Nat) : Int)] w' (Gives (.tuple #[.int .i64 (cosetR (redR l n) (x ^^^ o) : Nat), .int .i64 0]) w')) := fun w' hb => coset_call hn1.1 (by omega) (by omega) HLT.out (Nat.xor_lt_two_pow hxq hoq) (HI.out.below hb) (HTT.out.below hb)
  have HC3 : Hid (∀ w', Below w5.heap.size w5 w' → Calls Tryd.prog 40 #[.slice p l.length c, .int .i64 (n : Int), .int .i64 (o : Int)] w' (Gives (.tuple #[.int .i64 (cosetR (redR l n) o : Nat), .int .i64 0]) w')) := fun w' hb => coset_call hn1.1 (by omega) (by omega) HLT.out hoq (HI.out.below hb) (HTT.out.below hb)
  have HME : Hid (∀ y, InSp l y → ∀ w', Below w5.heap.size w5 w' → Calls Tryd.prog 21 #[.slice p l.length c, .int .i64 (n : Int), .int .i64 (y : Int)] w' (Gives (.tuple #[.bool true, .int .i64 0]) w')) := fun y hy w' hb => member_yes hn1.1 (by omega) (by omega) HLT.out hy (HI.out.below hb)
  rw [hL.other] at HC2
  rw [hL.none] at HC3
  have hcq := hL.lt
  have HIn := Lib.hid hL.inn
  have HLe := Lib.hid hL.least
  clear hL ho
  generalize cosetR (redR l n) x = cc at *
  rw [HQ.out] at hxq hoq hcq
  have hxo := i64_xor_nat x o (by omega) (by omega)
  have hxc := i64_xor_nat x cc (by omega) (by omega)
  have HMx := HME.out _ HIn.out
  have HMX := Lib.hid HMx
  have hzq : x ^^^ o < R24 := Nat.xor_lt_two_pow (n := 24) (by omega) (by omega)
  clear HMx HME HIn
  generalize x ^^^ o = xo at *
  generalize x ^^^ cc = xc at *
  have HON : Hid (∀ (y : Nat), y < 2 ^ 62 → ∀ w', Calls Tryd.prog 42 #[.int .i64 (y : Int)] w' (Gives (.int .i64 ((weightM y : Nat) : Int)) w')) := fun y hy w' => ones_call hy w'
  have HWt : Hid (∀ w', Calls Tryd.prog 41 #[.int .i64 (cc : Int)] w' (Gives (.tuple #[.int .i64 ((weightM cc : Nat) : Int), .int .i64 0]) w')) := fun w' => weight_call (by omega) w'
  go_wp2_with fail
  refine (HTK.out _ (Below.refl _ _)).mono ?_
  rintro e w6 ⟨rfl, hb6⟩
  go_wp2_with fail
  refine (HC1.out _ hb6).mono ?_
  rintro e w7 ⟨rfl, hb7⟩
  replace hb7 := below_via hb7 hb6
  clear hb6
  go_wp2_with fail
  (try rw [hxo])
  refine (HC2.out _ hb7).mono ?_
  rintro e w8 ⟨rfl, hb8⟩
  replace hb8 := below_via hb8 hb7
  clear hb7
  go_wp2_with fail
  refine (HC3.out _ hb8).mono ?_
  rintro e w9 ⟨rfl, hb9⟩
  replace hb9 := below_via hb9 hb8
  clear hb8 HTK HC1 HC2 HC3
  have hin : Hid (0 ≤ (cc : Int) ∧ (cc : Int) < wrap64 (2 ^ n)) := by
    refine ⟨Int.natCast_nonneg _, ?_⟩
    rw [HPW.out.1]
    exact_mod_cast hcq
  go_wp2_with fail
  all_goals first | (exfalso; rename (cc : Int) < 0 ∨ wrap64 (2 ^ n) ≤ (cc : Int) => hh; have hi := hin.out; rcases hh with hh | hh; exact absurd hi.1 (Int.not_le.2 hh); exact absurd hi.2 (Int.not_lt.2 hh)) | skip
  rename 0 ≤ (cc : Int) ∧ (cc : Int) < wrap64 (2 ^ n) => hh
  clear hh
  (try rw [hxc])
  refine (HMX.out _ hb9).mono ?_
  rintro e w10 ⟨rfl, hb10⟩
  replace hb10 := below_via hb10 hb9
  clear hb9 HMX
  go_wp2_with fail
  refine (HWt.out _).mono ?_
  rintro e w11 ⟨rfl, hb11⟩
  replace hb11 := below_via hb11 hb10
  clear hb10
  go_wp2_with fail
  refine (HON.out cc (by omega) _).mono ?_
  rintro e w12 ⟨rfl, hb12⟩
  replace hb12 := below_via hb12 hb11
  clear hb11 HWt
  have HA : Hid (∀ w', Below w5.heap.size w5 w' → Calls Tryd.prog 23 #[] w' (Gives (.bool true) w')) := fun w' hb => bt_awake w' (HTT.out.below hb)
  have HLE : Hid (∀ y, ¬ (weightM (x ^^^ tot l y) < weightM cc ∨ (weightM (x ^^^ tot l y) = weightM cc ∧ x ^^^ tot l y < cc))) := fun y => lighter_not.1 (HLe.out y)
  clear HLe
  generalize weightM cc = wc at *
  go_wp2_with fail
  (try rw [HPL.out.1])
  (try rw [HPL.out.2])
  have HB12 := Lib.hid hb12
  clear hb12
  go_loopw [128] (fun vi wr => ∃ k : Nat, k ≤ r ∧ vi = .int .i64 k ∧ Hid (Below w5.heap.size w5 wr)) (fun vi _ => r - (intOf vi).toNat)
  case atStart => exact ⟨0, by omega, rfl, HB12⟩
  case round =>
    obtain ⟨j, hj, rfl, HB⟩ := hrel
    clear HB12
    by_cases hjr : j < r
    · have hjr' : (j : Int) < r := by omega
      have htq : tot l j < R24 := Nat.lt_of_lt_of_le ((tot_in l j).lt HLT.out) (pow16 (by omega))
      have hle := HLE.out j
      have HTj := HTo.out j (by omega)
      have HTJ := Lib.hid HTj
      clear HTj
      generalize tot l j = T at *
      have hxt := i64_xor_nat x T (by omega) (Nat.lt_trans htq (by decide))
      have hyq : x ^^^ T < R24 := Nat.xor_lt_two_pow (n := 24) (by omega) htq
      generalize x ^^^ T = y at *
      have hon := HON.out y (Nat.lt_trans hyq (by decide))
      have HOy := Lib.hid hon
      clear hon
      generalize weightM y = wy at *
      go_wp2_with fail
      refine (HTJ.out _ HB.out).mono ?_
      rintro e w13 ⟨rfl, hb13⟩
      have HB13 := Lib.hid (below_via hb13 HB.out)
      clear hb13 HB HTJ
      go_wp2_with fail
      (try rw [hxt])
      refine (HOy.out _).mono ?_
      rintro e w14 ⟨rfl, hb14⟩
      have HB14 := Lib.hid (below_via hb14 HB13.out)
      clear hb14 HB13
      have hn1 : ¬ (wy : Int) < wc := by omega
      by_cases heq : wy = wc
      · have he1 : (wy : Int) = wc := by omega
        have hy1 : ¬ (y : Int) < cc := by omega
        subst heq
        go_wp2_with fail
        refine (HOy.out _).mono ?_
        rintro e w15 ⟨rfl, hb15⟩
        have HB15 := Lib.hid (below_via hb15 HB14.out)
        clear hb15 HB14 HOy
        go_wp2_with fail
        go_roundw
        case rel => exact ⟨j + 1, by omega, by go_num, HB15⟩
        case measure => simp [intOf]; omega
      · have he1 : ¬ (wy : Int) = wc := by omega
        go_wp2_with fail
        refine (HOy.out _).mono ?_
        rintro e w15 ⟨rfl, hb15⟩
        have HB15 := Lib.hid (below_via hb15 HB14.out)
        clear hb15 HB14 HOy
        go_wp2_with fail
        go_roundw
        case rel => exact ⟨j + 1, by omega, by go_num, HB15⟩
        case measure => simp [intOf]; omega
    · have hjr' : ¬ (j : Int) < r := by omega
      go_wp2_with fail
      refine (HA.out _ HB.out).mono ?_
      rintro e w13 ⟨rfl, hb13⟩
      have HB13 := Lib.hid (below_via hb13 HB.out)
      clear hb13 HB
      go_wp2_with fail
      go_ret
      exact ⟨rfl, below_via HB13.out HW.out⟩
end Go.Proofs.YtpnancidgobehaaDoor
