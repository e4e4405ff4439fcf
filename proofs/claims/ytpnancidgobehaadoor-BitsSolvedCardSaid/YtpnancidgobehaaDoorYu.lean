
/- BitsSolved: for all bytes. -/
import Derived.Test.YtpnancidgobehaaDoorYv
set_option linter.all false
set_option maxRecDepth 100000
namespace Go.Proofs.YtpnancidgobehaaDoor
open Go.RowKit
set_option maxHeartbeats 8000000 in
theorem BitsSolved_any (pn pm : Option Addr) (nn cn nm cm col : Nat) (hcol : col ≤ 255) (w : World) (hN : GivenI w pn nn cn) (hM : GivenI w pm nm cm) (hT : Tabbed w) :
    Calls Tryd.prog 5 #[.slice pn nn cn, .slice pm nm cm, .int .u8 (col : Int)] w (Gives (.bool true) w) := by
  have HN := Lib.hid hN
  have HM := Lib.hid hM
  have HT := Lib.hid hT
  clear hN hM hT
  obtain ⟨n, hn⟩ : ∃ n : Nat, 1 + (col : Int) % 10 = n := ⟨1 + col % 10, by omega⟩
  have hn1 : 1 ≤ n ∧ n ≤ 10 := by omega
  go_enter Tryd.func5, Tryd.ntmps5
  go_wp2_with fail
  refine (Of_anyI _ _ _ _ HM.out).mono ?_
  rintro e w1 ⟨bs, rfl, hbs, hS1, hb1⟩
  have hszw := hb1.size
  obtain ⟨L, hL⟩ : ∃ L, w1.heap.size = L := ⟨_, rfl⟩
  rw [hL] at hS1
  have A1 : Hid (At w bs L 0 [] w1) := ⟨hb1, hS1, fun q hq => by cases hq⟩
  have HNN := Lib.hid (HN.out.below hb1)
  clear hS1 hb1 HN HM
  go_wp2_with fail
  refine (Of_anyI _ _ _ _ HNN.out).mono ?_
  rintro e w2 ⟨b2, rfl, hb2, hS2, hB2⟩
  have A2 := Lib.hid (A1.out.call hB2)
  have S2 := Lib.hid hS2
  clear hS2 hB2 A1 HNN
  go_wp2_with fail
  refine (lw_Made _ _ _ _ n 8 (by omega) (by omega) (by omega) _ S2.out).mono ?_
  intro e w3 hmade
  obtain ⟨p, c, l, rfl, hl8, hlt, a3⟩ := A2.out.beside_made hmade (by have := A2.out.sto.1.2; omega) (by omega)
  have A3 := Lib.hid a3
  have HLT := Lib.hid hlt
  clear hmade a3 hlt A2 S2 hn hL
  have hpn : (2 ^ n : Nat) ≤ 65536 := Nat.pow_le_pow_right (by omega) (show n ≤ 16 by omega)
  have hp0 := Nat.two_pow_pos n
  have HPW := Lib.hid (pow_wrap (show n < 40 by omega))
  go_wp2_with fail
  (try rw [HPW.out])
  refine (less_anyI _ _ _ _ _ _ (by decide) (in_u32 hp0 hpn) A3.out.sto).mono ?_
  rintro e w4 ⟨_, rfl, ⟨z, rfl, z0, z1⟩, hS, hB⟩
  clear HPW
  obtain ⟨md, rfl⟩ : ∃ x : Nat, z = x := ⟨z.toNat, by omega⟩
  have hmd : md < 2 ^ n := by omega
  have A4 := Lib.hid (A3.out.draw hS hB)
  clear hS hB A3
  have hpm : (2 ^ l.length : Nat) ≤ 256 := Nat.pow_le_pow_right (by omega) (show l.length ≤ 8 by omega)
  have hm0 := Nat.two_pow_pos l.length
  have HB0 : Hid (0 < 2 ^ l.length) := hm0
  have HOR : Hid (∀ i c, i < l.length → c < 2 ^ l.length → c ||| 1 <<< i < 2 ^ l.length) := fun i c hi hc => Nat.or_lt_two_pow hc (by rw [Nat.one_shiftLeft]; exact Nat.pow_lt_pow_right (by omega) hi)
  go_wp2_with fail
  go_loopw [12, 43] (fun vc vi wr => ∃ i c0 : Nat, i ≤ l.length ∧ vi = .int .i64 i ∧ vc = .int .i64 c0 ∧ c0 < 2 ^ l.length ∧ Hid (At w bs L (0 + 1) [(.slice p l.length c, l)] wr)) (fun _ vi _ => l.length - (intOf vi).toNat)
  case atStart => exact ⟨0, 0, by omega, rfl, rfl, HB0.out, A4⟩
  case round =>
    obtain ⟨i, c0, hi, rfl, rfl, hc0, A5⟩ := hrel
    clear A4
    by_cases hil : i < l.length
    · obtain ⟨r, hrk⟩ : ∃ r, l[i]? = some r := ⟨_, List.getElem?_eq_getElem hil⟩
      obtain ⟨b0, off, rfl, hb0, hcx⟩ := A5.out.i0.at_ (casts_at hrk)
      have hrn := HLT.out r (List.mem_of_getElem? hrk)
      have hand := i64_and_nat r md (by omega) (by omega)
      have HOd := Lib.hid (fun w' => odd_call (r := r) (show n ≤ 62 by omega) hmd w')
      have hor := i64_or_nat c0 (1 <<< i) (by omega) (by have := HOR.out i 0 hil hm0; rw [Nat.zero_or] at this; omega)
      have hor2 := HOR.out i c0 hil hc0
      have hsl : ((1 <<< i : Nat) : Int) = 2 ^ i := by rw [Nat.one_shiftLeft, Int.natCast_pow]; rfl
      clear hrk hrn
      go_wp2_with fail
      (try rw [hand])
      refine (HOd.out _).mono ?_
      rintro e w5 ⟨rfl, hb5⟩
      have A6 := Lib.hid (A5.out.call hb5)
      clear hb5 A5 HOd
      cases dotB n r md
      · go_wp2_with fail
        go_roundw
        case rel => exact ⟨i + 1, c0, by omega, by go_num, rfl, hc0, A6⟩
        case measure => simp [intOf]; omega
      · have hpi := pow_wrap (show i < 40 by omega)
        have hor' : Go.bits .or .i64 (c0 : Int) (wrap64 (2 ^ i)) = ((c0 ||| 1 <<< i : Nat) : Int) := by
          rw [hpi, ← Nat.one_shiftLeft]
          exact hor
        clear hpi
        go_wp2_with fail
        go_roundw
        case rel => exact ⟨i + 1, c0 ||| 1 <<< i, by omega, by go_num, by first | rfl | rw [hor'], hor2, A6⟩
        case measure => simp [intOf]; omega
    · clear HOR HB0
      go_wp2_with fail
      refine (seldom_anyI _ _ _ _ _ _ (by decide) (by decide) A5.out.sto).mono ?_
      rintro e w6 ⟨_, rfl, ⟨z, rfl⟩, hS, hB⟩
      have A6 := Lib.hid (A5.out.draw hS hB)
      clear hS hB A5
      cases z
      · have hT0 : True := trivial
        have hsc := solve_call hn1.1 (show n ≤ 16 by omega) (show l.length ≤ 24 by omega) HLT.out A6.out.i0 hc0 (c := c)
        rcases solve_spec (n := n) (by omega) (by omega) hc0 with ⟨x, hx1, hx2, hx3⟩ | ⟨hx1, hx2⟩
        · rw [hx1] at hsc
          have hac := fun w' (h : Ints w' p (casts l)) => apply_call hn1.1 (show n ≤ 16 by omega) (show l.length ≤ 24 by omega) HLT.out h hx2.1 (c := c)
          rw [sol_image (by omega) hc0 hx2] at hac
          have hxn := hx2.1
          have HSC := Lib.hid hsc
          have HAC := Lib.hid hac
          have HX3 := Lib.hid hx3
          have hpn3 : (2 ^ n : Nat) ≤ 1024 := Nat.pow_le_pow_right (by omega) (show n ≤ 10 by omega)
          have hpm3 : (2 ^ l.length : Nat) ≤ 256 := Nat.pow_le_pow_right (by omega) (show l.length ≤ 8 by omega)
          clear hsc hac hx1 hx3 hx2
          have HSO : Hid (∀ y, y < x → ∀ w', Ints w' p (casts l) → Calls Tryd.prog 29 #[.slice p l.length c, .int .i64 (y : Int), .int .i64 (c0 : Int)] w' (Gives (.bool false) w')) := fun y hy w' h => by
            have := lw_solves l n y c0 (by omega) HLT.out (by omega) (by omega) (by omega) p c w' h
            rw [solB_not (by omega) (HX3.out y hy)] at this
            exact this
          have HLe : Hid ((x : Int) < wrap64 (2 ^ n)) := by
            show (x : Int) < wrap64 (2 ^ n)
            rw [pow_wrap (show n < 40 by omega)]
            exact_mod_cast hxn
          go_wp2_with fail
          refine HSC.out.mono ?_
          rintro e w11 ⟨rfl, hb11⟩
          have A11 := Lib.hid (A6.out.call hb11)
          clear hb11 A6 HSC
          go_wp2_with fail
          refine (HAC.out _ A11.out.i0).mono ?_
          rintro e w12 ⟨rfl, hb12⟩
          have A12 := Lib.hid (A11.out.call hb12)
          clear hb12 A11 HAC
          go_wp2_with fail
          all_goals first | (exfalso; rename wrap64 (2 ^ n) ≤ (x : Int) => hh; exact absurd HLe.out (Int.not_lt.2 hh)) | (exfalso; rename (x : Int) < 0 ∨ wrap64 (2 ^ n) ≤ (x : Int) => hh; rcases hh with hh | hh; exact absurd hh (Int.not_lt.2 (Int.natCast_nonneg _)); exact absurd HLe.out (Int.not_lt.2 hh)) | skip
          (try (rename (x : Int) < wrap64 (2 ^ n) => hh; clear hh))
          (try (rename 0 ≤ (x : Int) ∧ (x : Int) < wrap64 (2 ^ n) => hh; clear hh))
          go_loopw [98] (fun vi wr => ∃ k : Nat, k ≤ x ∧ vi = .int .i64 k ∧ Hid (At w bs L (0 + 1 + 1) [(.slice p l.length c, l)] wr)) (fun vi _ => x - (intOf vi).toNat)
          case atStart => exact ⟨0, by omega, rfl, A12⟩
          case round =>
            obtain ⟨k, hk, rfl, A13⟩ := hrel
            clear A12
            by_cases hkx : k < x
            · have hkx' : (k : Int) < x := by omega
              have HSk := Lib.hid (HSO.out k hkx _ A13.out.i0)
              go_wp2_with fail
              refine HSk.out.mono ?_
              rintro e w14 ⟨rfl, hb14⟩
              have A14 := Lib.hid (A13.out.call hb14)
              clear hb14 A13 HSk
              go_wp2_with fail
              go_roundw
              case rel => exact ⟨k + 1, by omega, by go_num, A14⟩
              case measure => simp [intOf]; omega
            · have hkx' : ¬ (k : Int) < x := by omega
              clear HSO HX3
              (try clear HLe)
              have hpq : (2 ^ n : Nat) ≤ 65536 := Nat.pow_le_pow_right (by omega) (show n ≤ 16 by omega)
              have hpq0 := Nat.two_pow_pos (n)
              have HPW2 := Lib.hid (pow_wrap (show n < 40 by omega))
              go_wp2_with fail
              (try rw [HPW2.out])
              refine (less_anyI _ _ _ _ _ _ (by decide) (in_u32 hpq0 hpq) A13.out.sto).mono ?_
              rintro e w20 ⟨_, rfl, ⟨z, rfl, z0, z1⟩, hS, hB⟩
              clear HPW2
              obtain ⟨rw0, rfl⟩ : ∃ x : Nat, z = x := ⟨z.toNat, by omega⟩
              have hrw0 : rw0 < 2 ^ n := by omega
              have A20 := Lib.hid (A13.out.draw hS hB)
              clear hS hB A13 hpq hpq0 z0 z1
              go_wp2_with fail
              refine (seldom_anyI _ _ _ _ _ _ (by decide) (by decide) A20.out.sto).mono ?_
              rintro e w21 ⟨_, rfl, ⟨z, rfl⟩, hS, hB⟩
              have A21 := Lib.hid (A20.out.draw hS hB)
              clear hS hB A20
              cases z
              · have hT0 : True := trivial
                have hwc := which_call hn1.1 (show n ≤ 16 by omega) (show l.length ≤ 24 by omega) HLT.out A21.out.i0 hrw0 (c := c)
                have HTS : Hid (∀ k : Nat, k < 4194304 → ∀ w', Ints w' p (casts l) → Calls Tryd.prog 18 #[.slice p l.length c, .int .i64 (k : Int)] w' (fun e w'' => e = .returned (.int .i64 ((tot l k : Nat) : Int)) ∧ w'' = w')) := fun k hk w' h => by
                  rw [← prod_tot]
                  exact lw_totalS l (by omega) (lt24 (by omega) HLT.out) k (by omega) p c w' h
                have hpm9 : (2 ^ l.length : Nat) ≤ 256 := Nat.pow_le_pow_right (by omega) (show l.length ≤ 8 by omega)
                have HPM := Lib.hid hpm9
                have HPWm := Lib.hid (pow_wrap (show l.length < 40 by omega))
                clear hpm9
                rcases which_spec HLT.out (by omega) (by omega) hrw0 with ⟨y0, hy1, hy2, hy3, hy4⟩ | ⟨hy1, hy2⟩
                · rw [hy1] at hwc
                  have HWC := Lib.hid hwc
                  have HY4 := Lib.hid hy4
                  have HY2 := Lib.hid hy2
                  clear hwc hy1 hy4 hy2
                  have HLe : Hid ((y0 : Int) < wrap64 (2 ^ l.length)) := by
                    show (y0 : Int) < wrap64 (2 ^ l.length)
                    rw [HPWm.out]
                    exact_mod_cast HY2.out
                  have htt := HTS.out y0 (Nat.lt_of_lt_of_le HY2.out (Nat.le_trans HPM.out (by decide)))
                  rw [hy3] at htt
                  have HTT := Lib.hid htt
                  clear htt
                  go_wp2_with fail
                  refine HWC.out.mono ?_
                  rintro e w31 ⟨rfl, hb31⟩
                  have A31 := Lib.hid (A21.out.call hb31)
                  clear hb31 A21 HWC
                  go_upto_region 41 with fail
                  have hd1 : decide ((y0 : Int) < 0) = false := decide_eq_false (Int.not_lt.2 (Int.natCast_nonneg _))
                  have hd2 : decide (wrap64 (2 ^ l.length) ≤ (y0 : Int)) = false := decide_eq_false (Int.not_le.2 HLe.out)
                  go_wp2_with fail
                  refine (HTT.out _ A31.out.i0).mono ?_
                  rintro e w32 ⟨rfl, rfl⟩
                  clear hd1 hd2 HTT
                  go_wp2_with fail
                  (try rw [HPWm.out])
                  obtain ⟨R, hR⟩ : ∃ R, 2 ^ l.length = R := ⟨_, rfl⟩
                  have hRM : R ≤ 256 := hR ▸ HPM.out
                  have HYR : Hid (y0 < R) := hR ▸ HY2.out
                  rw [hR]
                  clear hR
                  have A33 : Hid (∃ mm, At w bs L mm [(.slice p l.length c, l)] _) := Lib.hid ⟨_, A31.out⟩
                  clear A31 HLe
                  go_loopw [177] (fun vi wr => ∃ k : Nat, k ≤ R ∧ vi = .int .i64 k ∧ (∀ z, z < k → tot l z ≠ rw0) ∧ Hid (∃ mm, At w bs L mm [(.slice p l.length c, l)] wr)) (fun vi _ => R - (intOf vi).toNat)
                  case atStart => exact ⟨0, Nat.zero_le _, rfl, fun z hz => by omega, A33⟩
                  case round =>
                    obtain ⟨k, hk, rfl, hnek, A34⟩ := hrel
                    clear A33
                    have HNE := Lib.hid hnek
                    clear hnek
                    obtain ⟨mm, a34⟩ := A34.out
                    have A35 := Lib.hid a34
                    clear a34 A34
                    by_cases hkm : k < R
                    · have htk := HTS.out k (by omega) _ A35.out.i0
                      have hkm' : (k : Int) < R := by exact_mod_cast hkm
                      by_cases heq : tot l k = rw0
                      · have hky : k = y0 := by
                          have h1 : ¬ y0 < k := fun h => HNE.out y0 h hy3
                          have h2 : ¬ k < y0 := fun h => HY4.out k h heq
                          omega
                        rw [heq] at htk
                        have HTk := Lib.hid htk
                        clear htk
                        subst hky
                        go_wp2_with fail
                        refine HTk.out.mono ?_
                        rintro e w36 ⟨rfl, rfl⟩
                        go_wp2_with fail
                        refine (bt_awake _ (A35.out.tab HT.out)).mono ?_
                        rintro e w37 ⟨rfl, hb37⟩
                        have A37 := Lib.hid (A35.out.call hb37)
                        clear hb37 A35
                        go_wp2_with fail
                        go_ret
                        exact ⟨rfl, A37.out.bel⟩
                      · have HTk := Lib.hid htk
                        have hne : ¬ ((tot l k : Nat) : Int) = rw0 := fun h => heq (by exact_mod_cast h)
                        have HNK : Hid (∀ z, z < k + 1 → tot l z ≠ rw0) := fun z hz => by
                          by_cases h : z = k
                          · rw [h]; exact heq
                          · exact HNE.out z (by omega)
                        clear htk heq
                        generalize tot l k = T at *
                        go_wp2_with fail
                        refine HTk.out.mono ?_
                        rintro e w36 ⟨rfl, rfl⟩
                        go_wp2_with fail
                        go_roundw
                        case rel => exact ⟨k + 1, hkm, by go_num, HNK.out, Lib.hid ⟨_, A35.out⟩⟩
                        case measure => simp [intOf]; omega
                    · exact absurd hy3 (HNE.out y0 (Nat.lt_of_lt_of_le HYR.out (by omega)))
                · rw [hy1] at hwc
                  have HWC := Lib.hid hwc
                  have HY2 := Lib.hid hy2
                  clear hwc hy1 hy2
                  go_wp2_with fail
                  refine HWC.out.mono ?_
                  rintro e w31 ⟨rfl, hb31⟩
                  have A31 := Lib.hid (A21.out.call hb31)
                  clear hb31 A21 HWC
                  go_wp2_with fail
                  (try rw [HPWm.out])
                  obtain ⟨R, hR⟩ : ∃ R, 2 ^ l.length = R := ⟨_, rfl⟩
                  have hRM : R ≤ 256 := hR ▸ HPM.out
                  have HYR : Hid (∀ z, z < R → tot l z ≠ rw0) := hR ▸ HY2.out
                  rw [hR]
                  clear hR
                  have A33 : Hid (∃ mm, At w bs L mm [(.slice p l.length c, l)] _) := Lib.hid ⟨_, A31.out⟩
                  clear A31
                  go_loopw [177] (fun vi wr => ∃ k : Nat, k ≤ R ∧ vi = .int .i64 k ∧ Hid (∃ mm, At w bs L mm [(.slice p l.length c, l)] wr)) (fun vi _ => R - (intOf vi).toNat)
                  case atStart => exact ⟨0, Nat.zero_le _, rfl, A33⟩
                  case round =>
                    obtain ⟨k, hk, rfl, A34⟩ := hrel
                    clear A33
                    obtain ⟨mm, a34⟩ := A34.out
                    have A35 := Lib.hid a34
                    clear a34 A34
                    by_cases hkm : k < R
                    · have htk := HTS.out k (by omega) _ A35.out.i0
                      have hkm' : (k : Int) < R := by exact_mod_cast hkm
                      have hne : ¬ ((tot l k : Nat) : Int) = rw0 := fun h => HYR.out k hkm (by exact_mod_cast h)
                      have HTk := Lib.hid htk
                      clear htk
                      generalize tot l k = T at *
                      go_wp2_with fail
                      refine HTk.out.mono ?_
                      rintro e w36 ⟨rfl, rfl⟩
                      go_wp2_with fail
                      go_roundw
                      case rel => exact ⟨k + 1, hkm, by go_num, Lib.hid ⟨_, A35.out⟩⟩
                      case measure => simp [intOf]; omega
                    · have hkm' : ¬ (k : Int) < R := fun h => hkm (by exact_mod_cast h)
                      go_wp2_with fail
                      refine (bt_awake _ (A35.out.tab HT.out)).mono ?_
                      rintro e w37 ⟨rfl, hb37⟩
                      have A37 := Lib.hid (A35.out.call hb37)
                      clear hb37 A35
                      go_wp2_with fail
                      go_ret
                      exact ⟨rfl, A37.out.bel⟩
              · clear hrw0
                have hpq : (2 ^ l.length : Nat) ≤ 65536 := Nat.pow_le_pow_right (by omega) (show l.length ≤ 16 by omega)
                have hpq0 := Nat.two_pow_pos (l.length)
                have HPW2 := Lib.hid (pow_wrap (show l.length < 40 by omega))
                go_wp2_with fail
                (try rw [HPW2.out])
                refine (less_anyI _ _ _ _ _ _ (by decide) (in_u32 hpq0 hpq) A21.out.sto).mono ?_
                rintro e w22 ⟨_, rfl, ⟨z, rfl, z0, z1⟩, hS, hB⟩
                clear HPW2
                obtain ⟨k0, rfl⟩ : ∃ x : Nat, z = x := ⟨z.toNat, by omega⟩
                have hk0 : k0 < 2 ^ l.length := by omega
                have A22 := Lib.hid (A21.out.draw hS hB)
                clear hS hB A21 hpq hpq0 z0 z1
                have htt := lw_total l (by omega) (lt24 (by omega) HLT.out) k0 (by have : (2 ^ l.length : Nat) ≤ 256 := Nat.pow_le_pow_right (by omega) (show l.length ≤ 8 by omega); omega) p c w22 A22.out.i0
                rw [prod_tot] at htt
                have hrw2 : tot l k0 < 2 ^ n := (tot_in l k0).lt HLT.out
                have HTT0 := Lib.hid htt
                clear htt hk0
                generalize tot l k0 = rw2 at *
                go_wp2_with fail
                refine HTT0.out.mono ?_
                rintro e w23 ⟨rfl, hb23⟩
                have A23 := Lib.hid (A22.out.call hb23)
                clear hb23 A22 HTT0
                have hwc := which_call hn1.1 (show n ≤ 16 by omega) (show l.length ≤ 24 by omega) HLT.out A23.out.i0 hrw2 (c := c)
                have HTS : Hid (∀ k : Nat, k < 4194304 → ∀ w', Ints w' p (casts l) → Calls Tryd.prog 18 #[.slice p l.length c, .int .i64 (k : Int)] w' (fun e w'' => e = .returned (.int .i64 ((tot l k : Nat) : Int)) ∧ w'' = w')) := fun k hk w' h => by
                  rw [← prod_tot]
                  exact lw_totalS l (by omega) (lt24 (by omega) HLT.out) k (by omega) p c w' h
                have hpm9 : (2 ^ l.length : Nat) ≤ 256 := Nat.pow_le_pow_right (by omega) (show l.length ≤ 8 by omega)
                have HPM := Lib.hid hpm9
                have HPWm := Lib.hid (pow_wrap (show l.length < 40 by omega))
                clear hpm9
                rcases which_spec HLT.out (by omega) (by omega) hrw2 with ⟨y0, hy1, hy2, hy3, hy4⟩ | ⟨hy1, hy2⟩
                · rw [hy1] at hwc
                  have HWC := Lib.hid hwc
                  have HY4 := Lib.hid hy4
                  have HY2 := Lib.hid hy2
                  clear hwc hy1 hy4 hy2
                  have HLe : Hid ((y0 : Int) < wrap64 (2 ^ l.length)) := by
                    show (y0 : Int) < wrap64 (2 ^ l.length)
                    rw [HPWm.out]
                    exact_mod_cast HY2.out
                  have htt := HTS.out y0 (Nat.lt_of_lt_of_le HY2.out (Nat.le_trans HPM.out (by decide)))
                  rw [hy3] at htt
                  have HTT := Lib.hid htt
                  clear htt
                  go_wp2_with fail
                  refine HWC.out.mono ?_
                  rintro e w31 ⟨rfl, hb31⟩
                  have A31 := Lib.hid (A23.out.call hb31)
                  clear hb31 A23 HWC
                  go_upto_region 41 with fail
                  have hd1 : decide ((y0 : Int) < 0) = false := decide_eq_false (Int.not_lt.2 (Int.natCast_nonneg _))
                  have hd2 : decide (wrap64 (2 ^ l.length) ≤ (y0 : Int)) = false := decide_eq_false (Int.not_le.2 HLe.out)
                  go_wp2_with fail
                  refine (HTT.out _ A31.out.i0).mono ?_
                  rintro e w32 ⟨rfl, rfl⟩
                  clear hd1 hd2 HTT
                  go_wp2_with fail
                  (try rw [HPWm.out])
                  obtain ⟨R, hR⟩ : ∃ R, 2 ^ l.length = R := ⟨_, rfl⟩
                  have hRM : R ≤ 256 := hR ▸ HPM.out
                  have HYR : Hid (y0 < R) := hR ▸ HY2.out
                  rw [hR]
                  clear hR
                  have A33 : Hid (∃ mm, At w bs L mm [(.slice p l.length c, l)] _) := Lib.hid ⟨_, A31.out⟩
                  clear A31 HLe
                  go_loopw [177] (fun vi wr => ∃ k : Nat, k ≤ R ∧ vi = .int .i64 k ∧ (∀ z, z < k → tot l z ≠ rw2) ∧ Hid (∃ mm, At w bs L mm [(.slice p l.length c, l)] wr)) (fun vi _ => R - (intOf vi).toNat)
                  case atStart => exact ⟨0, Nat.zero_le _, rfl, fun z hz => by omega, A33⟩
                  case round =>
                    obtain ⟨k, hk, rfl, hnek, A34⟩ := hrel
                    clear A33
                    have HNE := Lib.hid hnek
                    clear hnek
                    obtain ⟨mm, a34⟩ := A34.out
                    have A35 := Lib.hid a34
                    clear a34 A34
                    by_cases hkm : k < R
                    · have htk := HTS.out k (by omega) _ A35.out.i0
                      have hkm' : (k : Int) < R := by exact_mod_cast hkm
                      by_cases heq : tot l k = rw2
                      · have hky : k = y0 := by
                          have h1 : ¬ y0 < k := fun h => HNE.out y0 h hy3
                          have h2 : ¬ k < y0 := fun h => HY4.out k h heq
                          omega
                        rw [heq] at htk
                        have HTk := Lib.hid htk
                        clear htk
                        subst hky
                        go_wp2_with fail
                        refine HTk.out.mono ?_
                        rintro e w36 ⟨rfl, rfl⟩
                        go_wp2_with fail
                        refine (bt_awake _ (A35.out.tab HT.out)).mono ?_
                        rintro e w37 ⟨rfl, hb37⟩
                        have A37 := Lib.hid (A35.out.call hb37)
                        clear hb37 A35
                        go_wp2_with fail
                        go_ret
                        exact ⟨rfl, A37.out.bel⟩
                      · have HTk := Lib.hid htk
                        have hne : ¬ ((tot l k : Nat) : Int) = rw2 := fun h => heq (by exact_mod_cast h)
                        have HNK : Hid (∀ z, z < k + 1 → tot l z ≠ rw2) := fun z hz => by
                          by_cases h : z = k
                          · rw [h]; exact heq
                          · exact HNE.out z (by omega)
                        clear htk heq
                        generalize tot l k = T at *
                        go_wp2_with fail
                        refine HTk.out.mono ?_
                        rintro e w36 ⟨rfl, rfl⟩
                        go_wp2_with fail
                        go_roundw
                        case rel => exact ⟨k + 1, hkm, by go_num, HNK.out, Lib.hid ⟨_, A35.out⟩⟩
                        case measure => simp [intOf]; omega
                    · exact absurd hy3 (HNE.out y0 (Nat.lt_of_lt_of_le HYR.out (by omega)))
                · rw [hy1] at hwc
                  have HWC := Lib.hid hwc
                  have HY2 := Lib.hid hy2
                  clear hwc hy1 hy2
                  go_wp2_with fail
                  refine HWC.out.mono ?_
                  rintro e w31 ⟨rfl, hb31⟩
                  have A31 := Lib.hid (A23.out.call hb31)
                  clear hb31 A23 HWC
                  go_wp2_with fail
                  (try rw [HPWm.out])
                  obtain ⟨R, hR⟩ : ∃ R, 2 ^ l.length = R := ⟨_, rfl⟩
                  have hRM : R ≤ 256 := hR ▸ HPM.out
                  have HYR : Hid (∀ z, z < R → tot l z ≠ rw2) := hR ▸ HY2.out
                  rw [hR]
                  clear hR
                  have A33 : Hid (∃ mm, At w bs L mm [(.slice p l.length c, l)] _) := Lib.hid ⟨_, A31.out⟩
                  clear A31
                  go_loopw [177] (fun vi wr => ∃ k : Nat, k ≤ R ∧ vi = .int .i64 k ∧ Hid (∃ mm, At w bs L mm [(.slice p l.length c, l)] wr)) (fun vi _ => R - (intOf vi).toNat)
                  case atStart => exact ⟨0, Nat.zero_le _, rfl, A33⟩
                  case round =>
                    obtain ⟨k, hk, rfl, A34⟩ := hrel
                    clear A33
                    obtain ⟨mm, a34⟩ := A34.out
                    have A35 := Lib.hid a34
                    clear a34 A34
                    by_cases hkm : k < R
                    · have htk := HTS.out k (by omega) _ A35.out.i0
                      have hkm' : (k : Int) < R := by exact_mod_cast hkm
                      have hne : ¬ ((tot l k : Nat) : Int) = rw2 := fun h => HYR.out k hkm (by exact_mod_cast h)
                      have HTk := Lib.hid htk
                      clear htk
                      generalize tot l k = T at *
                      go_wp2_with fail
                      refine HTk.out.mono ?_
                      rintro e w36 ⟨rfl, rfl⟩
                      go_wp2_with fail
                      go_roundw
                      case rel => exact ⟨k + 1, hkm, by go_num, Lib.hid ⟨_, A35.out⟩⟩
                      case measure => simp [intOf]; omega
                    · have hkm' : ¬ (k : Int) < R := fun h => hkm (by exact_mod_cast h)
                      go_wp2_with fail
                      refine (bt_awake _ (A35.out.tab HT.out)).mono ?_
                      rintro e w37 ⟨rfl, hb37⟩
                      have A37 := Lib.hid (A35.out.call hb37)
                      clear hb37 A35
                      go_wp2_with fail
                      go_ret
                      exact ⟨rfl, A37.out.bel⟩
        · rw [hx1] at hsc
          have HSC := Lib.hid hsc
          obtain ⟨zc, hz1, hz2, hz3⟩ := contra HLT.out hc0 hx2
          have HBB := Lib.hid hc0
          have hpm4 : (2 ^ l.length : Nat) ≤ 256 := Nat.pow_le_pow_right (by omega) (show l.length ≤ 8 by omega)
          have hb256 : c0 < 256 := Nat.lt_of_lt_of_le hc0 hpm4
          obtain ⟨F, hF⟩ : ∃ F : Nat → Bool, (fun z => decide (tot l z = 0) && dotB l.length z c0) = F := ⟨_, rfl⟩
          have HFE : Hid (∀ z, F z = (decide (tot l z = 0) && dotB l.length z c0)) := fun z => by rw [← hF]
          have HFZ : Hid (F zc = true) := by
            show F zc = true
            rw [← hF]
            simp [hz2, hz3]
          have HPWm := Lib.hid (pow_wrap (show l.length < 40 by omega))
          have HZ1 := Lib.hid hz1
          have HPM := Lib.hid hpm4
          clear hsc hx1 hx2 hz1 hz2 hz3 hF hpm4 hc0
          go_wp2_with fail
          refine HSC.out.mono ?_
          rintro e w11 ⟨rfl, hb11⟩
          have A11 := Lib.hid (A6.out.call hb11)
          clear hb11 A6 HSC
          go_wp2_with fail
          (try rw [HPWm.out])
          obtain ⟨R, hR⟩ : ∃ R, 2 ^ l.length = R := ⟨_, rfl⟩
          have hRM : R ≤ 256 := hR ▸ HPM.out
          have HZR : Hid (zc < R) := hR ▸ HZ1.out
          have HBR : Hid (2 ^ l.length = R) := hR
          rw [hR]
          clear hR
          go_loopw [20, 110] (fun vn vi wr => ∃ k : Nat, k ≤ R ∧ vi = .int .i64 k ∧ vn = .bool ((List.range k).any F) ∧ Hid (At w bs L (0 + 1 + 1) [(.slice p l.length c, l)] wr)) (fun _ vi _ => R - (intOf vi).toNat)
          case atStart => exact ⟨0, by omega, rfl, rfl, A11⟩
          case round =>
            obtain ⟨k, hk, rfl, rfl, A13⟩ := hrel
            clear A11
            by_cases hkR : k < R
            · have hkR' : (k : Int) < R := by omega
              have hnx : (List.range (k + 1)).any F = ((List.range k).any F || F k) := by rw [List.range_succ, List.any_append]; simp
              have HNX := Lib.hid hnx
              clear hnx
              cases hP : (List.range k).any F
              · rw [hP] at HNX
                have hTk := lw_total l (by omega) (lt24 (by omega) HLT.out) k (by omega) p c wr A13.out.i0
                rw [prod_tot] at hTk
                have HTk := Lib.hid hTk
                have hand := i64_and_nat k c0 (by omega) (by omega)
                have HOk := Lib.hid (fun w' => odd_call (r := k) (show l.length ≤ 62 by omega) HBB.out w')
                have hfe := HFE.out k
                clear hTk hP
                by_cases hT0 : tot l k = 0
                · rw [hT0] at HTk
                  rw [decide_eq_true hT0, Bool.true_and] at hfe
                  have HN2 : Hid ((List.range (k + 1)).any F = dotB l.length k c0) := HNX.out.trans (by rw [hfe]; rfl)
                  clear hT0 hfe HNX
                  generalize dotB l.length k c0 = D at *
                  go_wp2_with fail
                  refine HTk.out.mono ?_
                  rintro e w14 ⟨rfl, hb14⟩
                  have A14 := Lib.hid (A13.out.call hb14)
                  clear hb14 A13 HTk
                  go_wp2_with fail
                  (try rw [hand])
                  refine (HOk.out _).mono ?_
                  rintro e w15 ⟨rfl, hb15⟩
                  have A15 := Lib.hid (A14.out.call hb15)
                  clear hb15 A14 HOk
                  go_wp2_with fail
                  go_roundw
                  case rel => exact ⟨k + 1, hkR, by go_num, by rw [HN2.out], A15⟩
                  case measure => simp [intOf]; omega
                · rw [decide_eq_false hT0, Bool.false_and] at hfe
                  have HN2 : Hid ((List.range (k + 1)).any F = false) := HNX.out.trans (by rw [hfe]; rfl)
                  have hne : ¬ ((tot l k : Nat) : Int) = 0 := by omega
                  clear hT0 hfe HNX
                  generalize tot l k = T at *
                  go_wp2_with fail
                  refine HTk.out.mono ?_
                  rintro e w14 ⟨rfl, hb14⟩
                  have A14 := Lib.hid (A13.out.call hb14)
                  clear hb14 A13 HTk
                  go_wp2_with fail
                  go_roundw
                  case rel => exact ⟨k + 1, hkR, by go_num, by rw [HN2.out], A14⟩
                  case measure => simp [intOf]; omega
              · rw [hP] at HNX
                have HN2 : Hid ((List.range (k + 1)).any F = true) := HNX.out.trans rfl
                clear hP HNX
                go_wp2_with fail
                go_roundw
                case rel => exact ⟨k + 1, hkR, by go_num, by rw [HN2.out], A13⟩
                case measure => simp [intOf]; omega
            · have hkR' : ¬ (k : Int) < R := by omega
              have hany : (List.range k).any F = true := List.any_eq_true.2 ⟨zc, List.mem_range.2 (Nat.lt_of_lt_of_le HZR.out (by omega)), HFZ.out⟩
              rw [hany]
              clear hany HZR HZ1 HFZ HFE HBB hb256 hRM HBR
              have hpq : (2 ^ n : Nat) ≤ 65536 := Nat.pow_le_pow_right (by omega) (show n ≤ 16 by omega)
              have hpq0 := Nat.two_pow_pos (n)
              have HPW2 := Lib.hid (pow_wrap (show n < 40 by omega))
              go_wp2_with fail
              (try rw [HPW2.out])
              refine (less_anyI _ _ _ _ _ _ (by decide) (in_u32 hpq0 hpq) A13.out.sto).mono ?_
              rintro e w20 ⟨_, rfl, ⟨z, rfl, z0, z1⟩, hS, hB⟩
              clear HPW2
              obtain ⟨rw0, rfl⟩ : ∃ x : Nat, z = x := ⟨z.toNat, by omega⟩
              have hrw0 : rw0 < 2 ^ n := by omega
              have A20 := Lib.hid (A13.out.draw hS hB)
              clear hS hB A13 hpq hpq0 z0 z1
              go_wp2_with fail
              refine (seldom_anyI _ _ _ _ _ _ (by decide) (by decide) A20.out.sto).mono ?_
              rintro e w21 ⟨_, rfl, ⟨z, rfl⟩, hS, hB⟩
              have A21 := Lib.hid (A20.out.draw hS hB)
              clear hS hB A20
              cases z
              · have hT0 : True := trivial
                have hwc := which_call hn1.1 (show n ≤ 16 by omega) (show l.length ≤ 24 by omega) HLT.out A21.out.i0 hrw0 (c := c)
                have HTS : Hid (∀ k : Nat, k < 4194304 → ∀ w', Ints w' p (casts l) → Calls Tryd.prog 18 #[.slice p l.length c, .int .i64 (k : Int)] w' (fun e w'' => e = .returned (.int .i64 ((tot l k : Nat) : Int)) ∧ w'' = w')) := fun k hk w' h => by
                  rw [← prod_tot]
                  exact lw_totalS l (by omega) (lt24 (by omega) HLT.out) k (by omega) p c w' h
                have hpm9 : (2 ^ l.length : Nat) ≤ 256 := Nat.pow_le_pow_right (by omega) (show l.length ≤ 8 by omega)
                have HPM := Lib.hid hpm9
                have HPWm := Lib.hid (pow_wrap (show l.length < 40 by omega))
                clear hpm9
                rcases which_spec HLT.out (by omega) (by omega) hrw0 with ⟨y0, hy1, hy2, hy3, hy4⟩ | ⟨hy1, hy2⟩
                · rw [hy1] at hwc
                  have HWC := Lib.hid hwc
                  have HY4 := Lib.hid hy4
                  have HY2 := Lib.hid hy2
                  clear hwc hy1 hy4 hy2
                  have HLe : Hid ((y0 : Int) < wrap64 (2 ^ l.length)) := by
                    show (y0 : Int) < wrap64 (2 ^ l.length)
                    rw [HPWm.out]
                    exact_mod_cast HY2.out
                  have htt := HTS.out y0 (Nat.lt_of_lt_of_le HY2.out (Nat.le_trans HPM.out (by decide)))
                  rw [hy3] at htt
                  have HTT := Lib.hid htt
                  clear htt
                  go_wp2_with fail
                  refine HWC.out.mono ?_
                  rintro e w31 ⟨rfl, hb31⟩
                  have A31 := Lib.hid (A21.out.call hb31)
                  clear hb31 A21 HWC
                  go_upto_region 41 with fail
                  have hd1 : decide ((y0 : Int) < 0) = false := decide_eq_false (Int.not_lt.2 (Int.natCast_nonneg _))
                  have hd2 : decide (wrap64 (2 ^ l.length) ≤ (y0 : Int)) = false := decide_eq_false (Int.not_le.2 HLe.out)
                  go_wp2_with fail
                  refine (HTT.out _ A31.out.i0).mono ?_
                  rintro e w32 ⟨rfl, rfl⟩
                  clear hd1 hd2 HTT
                  go_wp2_with fail
                  (try rw [HPWm.out])
                  obtain ⟨R, hR⟩ : ∃ R, 2 ^ l.length = R := ⟨_, rfl⟩
                  have hRM : R ≤ 256 := hR ▸ HPM.out
                  have HYR : Hid (y0 < R) := hR ▸ HY2.out
                  rw [hR]
                  clear hR
                  have A33 : Hid (∃ mm, At w bs L mm [(.slice p l.length c, l)] _) := Lib.hid ⟨_, A31.out⟩
                  clear A31 HLe
                  go_loopw [177] (fun vi wr => ∃ k : Nat, k ≤ R ∧ vi = .int .i64 k ∧ (∀ z, z < k → tot l z ≠ rw0) ∧ Hid (∃ mm, At w bs L mm [(.slice p l.length c, l)] wr)) (fun vi _ => R - (intOf vi).toNat)
                  case atStart => exact ⟨0, Nat.zero_le _, rfl, fun z hz => by omega, A33⟩
                  case round =>
                    obtain ⟨k, hk, rfl, hnek, A34⟩ := hrel
                    clear A33
                    have HNE := Lib.hid hnek
                    clear hnek
                    obtain ⟨mm, a34⟩ := A34.out
                    have A35 := Lib.hid a34
                    clear a34 A34
                    by_cases hkm : k < R
                    · have htk := HTS.out k (by omega) _ A35.out.i0
                      have hkm' : (k : Int) < R := by exact_mod_cast hkm
                      by_cases heq : tot l k = rw0
                      · have hky : k = y0 := by
                          have h1 : ¬ y0 < k := fun h => HNE.out y0 h hy3
                          have h2 : ¬ k < y0 := fun h => HY4.out k h heq
                          omega
                        rw [heq] at htk
                        have HTk := Lib.hid htk
                        clear htk
                        subst hky
                        go_wp2_with fail
                        refine HTk.out.mono ?_
                        rintro e w36 ⟨rfl, rfl⟩
                        go_wp2_with fail
                        refine (bt_awake _ (A35.out.tab HT.out)).mono ?_
                        rintro e w37 ⟨rfl, hb37⟩
                        have A37 := Lib.hid (A35.out.call hb37)
                        clear hb37 A35
                        go_wp2_with fail
                        go_ret
                        exact ⟨rfl, A37.out.bel⟩
                      · have HTk := Lib.hid htk
                        have hne : ¬ ((tot l k : Nat) : Int) = rw0 := fun h => heq (by exact_mod_cast h)
                        have HNK : Hid (∀ z, z < k + 1 → tot l z ≠ rw0) := fun z hz => by
                          by_cases h : z = k
                          · rw [h]; exact heq
                          · exact HNE.out z (by omega)
                        clear htk heq
                        generalize tot l k = T at *
                        go_wp2_with fail
                        refine HTk.out.mono ?_
                        rintro e w36 ⟨rfl, rfl⟩
                        go_wp2_with fail
                        go_roundw
                        case rel => exact ⟨k + 1, hkm, by go_num, HNK.out, Lib.hid ⟨_, A35.out⟩⟩
                        case measure => simp [intOf]; omega
                    · exact absurd hy3 (HNE.out y0 (Nat.lt_of_lt_of_le HYR.out (by omega)))
                · rw [hy1] at hwc
                  have HWC := Lib.hid hwc
                  have HY2 := Lib.hid hy2
                  clear hwc hy1 hy2
                  go_wp2_with fail
                  refine HWC.out.mono ?_
                  rintro e w31 ⟨rfl, hb31⟩
                  have A31 := Lib.hid (A21.out.call hb31)
                  clear hb31 A21 HWC
                  go_wp2_with fail
                  (try rw [HPWm.out])
                  obtain ⟨R, hR⟩ : ∃ R, 2 ^ l.length = R := ⟨_, rfl⟩
                  have hRM : R ≤ 256 := hR ▸ HPM.out
                  have HYR : Hid (∀ z, z < R → tot l z ≠ rw0) := hR ▸ HY2.out
                  rw [hR]
                  clear hR
                  have A33 : Hid (∃ mm, At w bs L mm [(.slice p l.length c, l)] _) := Lib.hid ⟨_, A31.out⟩
                  clear A31
                  go_loopw [177] (fun vi wr => ∃ k : Nat, k ≤ R ∧ vi = .int .i64 k ∧ Hid (∃ mm, At w bs L mm [(.slice p l.length c, l)] wr)) (fun vi _ => R - (intOf vi).toNat)
                  case atStart => exact ⟨0, Nat.zero_le _, rfl, A33⟩
                  case round =>
                    obtain ⟨k, hk, rfl, A34⟩ := hrel
                    clear A33
                    obtain ⟨mm, a34⟩ := A34.out
                    have A35 := Lib.hid a34
                    clear a34 A34
                    by_cases hkm : k < R
                    · have htk := HTS.out k (by omega) _ A35.out.i0
                      have hkm' : (k : Int) < R := by exact_mod_cast hkm
                      have hne : ¬ ((tot l k : Nat) : Int) = rw0 := fun h => HYR.out k hkm (by exact_mod_cast h)
                      have HTk := Lib.hid htk
                      clear htk
                      generalize tot l k = T at *
                      go_wp2_with fail
                      refine HTk.out.mono ?_
                      rintro e w36 ⟨rfl, rfl⟩
                      go_wp2_with fail
                      go_roundw
                      case rel => exact ⟨k + 1, hkm, by go_num, Lib.hid ⟨_, A35.out⟩⟩
                      case measure => simp [intOf]; omega
                    · have hkm' : ¬ (k : Int) < R := fun h => hkm (by exact_mod_cast h)
                      go_wp2_with fail
                      refine (bt_awake _ (A35.out.tab HT.out)).mono ?_
                      rintro e w37 ⟨rfl, hb37⟩
                      have A37 := Lib.hid (A35.out.call hb37)
                      clear hb37 A35
                      go_wp2_with fail
                      go_ret
                      exact ⟨rfl, A37.out.bel⟩
              · clear hrw0
                have hpq : (2 ^ l.length : Nat) ≤ 65536 := Nat.pow_le_pow_right (by omega) (show l.length ≤ 16 by omega)
                have hpq0 := Nat.two_pow_pos (l.length)
                have HPW2 := Lib.hid (pow_wrap (show l.length < 40 by omega))
                go_wp2_with fail
                (try rw [HPW2.out])
                refine (less_anyI _ _ _ _ _ _ (by decide) (in_u32 hpq0 hpq) A21.out.sto).mono ?_
                rintro e w22 ⟨_, rfl, ⟨z, rfl, z0, z1⟩, hS, hB⟩
                clear HPW2
                obtain ⟨k0, rfl⟩ : ∃ x : Nat, z = x := ⟨z.toNat, by omega⟩
                have hk0 : k0 < 2 ^ l.length := by omega
                have A22 := Lib.hid (A21.out.draw hS hB)
                clear hS hB A21 hpq hpq0 z0 z1
                have htt := lw_total l (by omega) (lt24 (by omega) HLT.out) k0 (by have : (2 ^ l.length : Nat) ≤ 256 := Nat.pow_le_pow_right (by omega) (show l.length ≤ 8 by omega); omega) p c w22 A22.out.i0
                rw [prod_tot] at htt
                have hrw2 : tot l k0 < 2 ^ n := (tot_in l k0).lt HLT.out
                have HTT0 := Lib.hid htt
                clear htt hk0
                generalize tot l k0 = rw2 at *
                go_wp2_with fail
                refine HTT0.out.mono ?_
                rintro e w23 ⟨rfl, hb23⟩
                have A23 := Lib.hid (A22.out.call hb23)
                clear hb23 A22 HTT0
                have hwc := which_call hn1.1 (show n ≤ 16 by omega) (show l.length ≤ 24 by omega) HLT.out A23.out.i0 hrw2 (c := c)
                have HTS : Hid (∀ k : Nat, k < 4194304 → ∀ w', Ints w' p (casts l) → Calls Tryd.prog 18 #[.slice p l.length c, .int .i64 (k : Int)] w' (fun e w'' => e = .returned (.int .i64 ((tot l k : Nat) : Int)) ∧ w'' = w')) := fun k hk w' h => by
                  rw [← prod_tot]
                  exact lw_totalS l (by omega) (lt24 (by omega) HLT.out) k (by omega) p c w' h
                have hpm9 : (2 ^ l.length : Nat) ≤ 256 := Nat.pow_le_pow_right (by omega) (show l.length ≤ 8 by omega)
                have HPM := Lib.hid hpm9
                have HPWm := Lib.hid (pow_wrap (show l.length < 40 by omega))
                clear hpm9
                rcases which_spec HLT.out (by omega) (by omega) hrw2 with ⟨y0, hy1, hy2, hy3, hy4⟩ | ⟨hy1, hy2⟩
                · rw [hy1] at hwc
                  have HWC := Lib.hid hwc
                  have HY4 := Lib.hid hy4
                  have HY2 := Lib.hid hy2
                  clear hwc hy1 hy4 hy2
                  have HLe : Hid ((y0 : Int) < wrap64 (2 ^ l.length)) := by
                    show (y0 : Int) < wrap64 (2 ^ l.length)
                    rw [HPWm.out]
                    exact_mod_cast HY2.out
                  have htt := HTS.out y0 (Nat.lt_of_lt_of_le HY2.out (Nat.le_trans HPM.out (by decide)))
                  rw [hy3] at htt
                  have HTT := Lib.hid htt
                  clear htt
                  go_wp2_with fail
                  refine HWC.out.mono ?_
                  rintro e w31 ⟨rfl, hb31⟩
                  have A31 := Lib.hid (A23.out.call hb31)
                  clear hb31 A23 HWC
                  go_upto_region 41 with fail
                  have hd1 : decide ((y0 : Int) < 0) = false := decide_eq_false (Int.not_lt.2 (Int.natCast_nonneg _))
                  have hd2 : decide (wrap64 (2 ^ l.length) ≤ (y0 : Int)) = false := decide_eq_false (Int.not_le.2 HLe.out)
                  go_wp2_with fail
                  refine (HTT.out _ A31.out.i0).mono ?_
                  rintro e w32 ⟨rfl, rfl⟩
                  clear hd1 hd2 HTT
                  go_wp2_with fail
                  (try rw [HPWm.out])
                  obtain ⟨R, hR⟩ : ∃ R, 2 ^ l.length = R := ⟨_, rfl⟩
                  have hRM : R ≤ 256 := hR ▸ HPM.out
                  have HYR : Hid (y0 < R) := hR ▸ HY2.out
                  rw [hR]
                  clear hR
                  have A33 : Hid (∃ mm, At w bs L mm [(.slice p l.length c, l)] _) := Lib.hid ⟨_, A31.out⟩
                  clear A31 HLe
                  go_loopw [177] (fun vi wr => ∃ k : Nat, k ≤ R ∧ vi = .int .i64 k ∧ (∀ z, z < k → tot l z ≠ rw2) ∧ Hid (∃ mm, At w bs L mm [(.slice p l.length c, l)] wr)) (fun vi _ => R - (intOf vi).toNat)
                  case atStart => exact ⟨0, Nat.zero_le _, rfl, fun z hz => by omega, A33⟩
                  case round =>
                    obtain ⟨k, hk, rfl, hnek, A34⟩ := hrel
                    clear A33
                    have HNE := Lib.hid hnek
                    clear hnek
                    obtain ⟨mm, a34⟩ := A34.out
                    have A35 := Lib.hid a34
                    clear a34 A34
                    by_cases hkm : k < R
                    · have htk := HTS.out k (by omega) _ A35.out.i0
                      have hkm' : (k : Int) < R := by exact_mod_cast hkm
                      by_cases heq : tot l k = rw2
                      · have hky : k = y0 := by
                          have h1 : ¬ y0 < k := fun h => HNE.out y0 h hy3
                          have h2 : ¬ k < y0 := fun h => HY4.out k h heq
                          omega
                        rw [heq] at htk
                        have HTk := Lib.hid htk
                        clear htk
                        subst hky
                        go_wp2_with fail
                        refine HTk.out.mono ?_
                        rintro e w36 ⟨rfl, rfl⟩
                        go_wp2_with fail
                        refine (bt_awake _ (A35.out.tab HT.out)).mono ?_
                        rintro e w37 ⟨rfl, hb37⟩
                        have A37 := Lib.hid (A35.out.call hb37)
                        clear hb37 A35
                        go_wp2_with fail
                        go_ret
                        exact ⟨rfl, A37.out.bel⟩
                      · have HTk := Lib.hid htk
                        have hne : ¬ ((tot l k : Nat) : Int) = rw2 := fun h => heq (by exact_mod_cast h)
                        have HNK : Hid (∀ z, z < k + 1 → tot l z ≠ rw2) := fun z hz => by
                          by_cases h : z = k
                          · rw [h]; exact heq
                          · exact HNE.out z (by omega)
                        clear htk heq
                        generalize tot l k = T at *
                        go_wp2_with fail
                        refine HTk.out.mono ?_
                        rintro e w36 ⟨rfl, rfl⟩
                        go_wp2_with fail
                        go_roundw
                        case rel => exact ⟨k + 1, hkm, by go_num, HNK.out, Lib.hid ⟨_, A35.out⟩⟩
                        case measure => simp [intOf]; omega
                    · exact absurd hy3 (HNE.out y0 (Nat.lt_of_lt_of_le HYR.out (by omega)))
                · rw [hy1] at hwc
                  have HWC := Lib.hid hwc
                  have HY2 := Lib.hid hy2
                  clear hwc hy1 hy2
                  go_wp2_with fail
                  refine HWC.out.mono ?_
                  rintro e w31 ⟨rfl, hb31⟩
                  have A31 := Lib.hid (A23.out.call hb31)
                  clear hb31 A23 HWC
                  go_wp2_with fail
                  (try rw [HPWm.out])
                  obtain ⟨R, hR⟩ : ∃ R, 2 ^ l.length = R := ⟨_, rfl⟩
                  have hRM : R ≤ 256 := hR ▸ HPM.out
                  have HYR : Hid (∀ z, z < R → tot l z ≠ rw2) := hR ▸ HY2.out
                  rw [hR]
                  clear hR
                  have A33 : Hid (∃ mm, At w bs L mm [(.slice p l.length c, l)] _) := Lib.hid ⟨_, A31.out⟩
                  clear A31
                  go_loopw [177] (fun vi wr => ∃ k : Nat, k ≤ R ∧ vi = .int .i64 k ∧ Hid (∃ mm, At w bs L mm [(.slice p l.length c, l)] wr)) (fun vi _ => R - (intOf vi).toNat)
                  case atStart => exact ⟨0, Nat.zero_le _, rfl, A33⟩
                  case round =>
                    obtain ⟨k, hk, rfl, A34⟩ := hrel
                    clear A33
                    obtain ⟨mm, a34⟩ := A34.out
                    have A35 := Lib.hid a34
                    clear a34 A34
                    by_cases hkm : k < R
                    · have htk := HTS.out k (by omega) _ A35.out.i0
                      have hkm' : (k : Int) < R := by exact_mod_cast hkm
                      have hne : ¬ ((tot l k : Nat) : Int) = rw2 := fun h => HYR.out k hkm (by exact_mod_cast h)
                      have HTk := Lib.hid htk
                      clear htk
                      generalize tot l k = T at *
                      go_wp2_with fail
                      refine HTk.out.mono ?_
                      rintro e w36 ⟨rfl, rfl⟩
                      go_wp2_with fail
                      go_roundw
                      case rel => exact ⟨k + 1, hkm, by go_num, Lib.hid ⟨_, A35.out⟩⟩
                      case measure => simp [intOf]; omega
                    · have hkm' : ¬ (k : Int) < R := fun h => hkm (by exact_mod_cast h)
                      go_wp2_with fail
                      refine (bt_awake _ (A35.out.tab HT.out)).mono ?_
                      rintro e w37 ⟨rfl, hb37⟩
                      have A37 := Lib.hid (A35.out.call hb37)
                      clear hb37 A35
                      go_wp2_with fail
                      go_ret
                      exact ⟨rfl, A37.out.bel⟩
      · clear hc0
        have hpq : (2 ^ l.length : Nat) ≤ 65536 := Nat.pow_le_pow_right (by omega) (show l.length ≤ 16 by omega)
        have hpq0 := Nat.two_pow_pos (l.length)
        have HPW2 := Lib.hid (pow_wrap (show l.length < 40 by omega))
        go_wp2_with fail
        (try rw [HPW2.out])
        refine (less_anyI _ _ _ _ _ _ (by decide) (in_u32 hpq0 hpq) A6.out.sto).mono ?_
        rintro e w7 ⟨_, rfl, ⟨z, rfl, z0, z1⟩, hS, hB⟩
        clear HPW2
        obtain ⟨b1, rfl⟩ : ∃ x : Nat, z = x := ⟨z.toNat, by omega⟩
        have hb1 : b1 < 2 ^ l.length := by omega
        have A7 := Lib.hid (A6.out.draw hS hB)
        clear hS hB A6 hpq hpq0 z0 z1
        have hsc := solve_call hn1.1 (show n ≤ 16 by omega) (show l.length ≤ 24 by omega) HLT.out A7.out.i0 hb1 (c := c)
        rcases solve_spec (n := n) (by omega) (by omega) hb1 with ⟨x, hx1, hx2, hx3⟩ | ⟨hx1, hx2⟩
        · rw [hx1] at hsc
          have hac := fun w' (h : Ints w' p (casts l)) => apply_call hn1.1 (show n ≤ 16 by omega) (show l.length ≤ 24 by omega) HLT.out h hx2.1 (c := c)
          rw [sol_image (by omega) hb1 hx2] at hac
          have hxn := hx2.1
          have HSC := Lib.hid hsc
          have HAC := Lib.hid hac
          have HX3 := Lib.hid hx3
          have hpn3 : (2 ^ n : Nat) ≤ 1024 := Nat.pow_le_pow_right (by omega) (show n ≤ 10 by omega)
          have hpm3 : (2 ^ l.length : Nat) ≤ 256 := Nat.pow_le_pow_right (by omega) (show l.length ≤ 8 by omega)
          clear hsc hac hx1 hx3 hx2
          have HSO : Hid (∀ y, y < x → ∀ w', Ints w' p (casts l) → Calls Tryd.prog 29 #[.slice p l.length c, .int .i64 (y : Int), .int .i64 (b1 : Int)] w' (Gives (.bool false) w')) := fun y hy w' h => by
            have := lw_solves l n y b1 (by omega) HLT.out (by omega) (by omega) (by omega) p c w' h
            rw [solB_not (by omega) (HX3.out y hy)] at this
            exact this
          have HLe : Hid ((x : Int) < wrap64 (2 ^ n)) := by
            show (x : Int) < wrap64 (2 ^ n)
            rw [pow_wrap (show n < 40 by omega)]
            exact_mod_cast hxn
          go_wp2_with fail
          refine HSC.out.mono ?_
          rintro e w11 ⟨rfl, hb11⟩
          have A11 := Lib.hid (A7.out.call hb11)
          clear hb11 A7 HSC
          go_wp2_with fail
          refine (HAC.out _ A11.out.i0).mono ?_
          rintro e w12 ⟨rfl, hb12⟩
          have A12 := Lib.hid (A11.out.call hb12)
          clear hb12 A11 HAC
          go_wp2_with fail
          all_goals first | (exfalso; rename wrap64 (2 ^ n) ≤ (x : Int) => hh; exact absurd HLe.out (Int.not_lt.2 hh)) | (exfalso; rename (x : Int) < 0 ∨ wrap64 (2 ^ n) ≤ (x : Int) => hh; rcases hh with hh | hh; exact absurd hh (Int.not_lt.2 (Int.natCast_nonneg _)); exact absurd HLe.out (Int.not_lt.2 hh)) | skip
          (try (rename (x : Int) < wrap64 (2 ^ n) => hh; clear hh))
          (try (rename 0 ≤ (x : Int) ∧ (x : Int) < wrap64 (2 ^ n) => hh; clear hh))
          go_loopw [98] (fun vi wr => ∃ k : Nat, k ≤ x ∧ vi = .int .i64 k ∧ Hid (At w bs L (0 + 1 + 1 + 1) [(.slice p l.length c, l)] wr)) (fun vi _ => x - (intOf vi).toNat)
          case atStart => exact ⟨0, by omega, rfl, A12⟩
          case round =>
            obtain ⟨k, hk, rfl, A13⟩ := hrel
            clear A12
            by_cases hkx : k < x
            · have hkx' : (k : Int) < x := by omega
              have HSk := Lib.hid (HSO.out k hkx _ A13.out.i0)
              go_wp2_with fail
              refine HSk.out.mono ?_
              rintro e w14 ⟨rfl, hb14⟩
              have A14 := Lib.hid (A13.out.call hb14)
              clear hb14 A13 HSk
              go_wp2_with fail
              go_roundw
              case rel => exact ⟨k + 1, by omega, by go_num, A14⟩
              case measure => simp [intOf]; omega
            · have hkx' : ¬ (k : Int) < x := by omega
              clear HSO HX3
              (try clear HLe)
              have hpq : (2 ^ n : Nat) ≤ 65536 := Nat.pow_le_pow_right (by omega) (show n ≤ 16 by omega)
              have hpq0 := Nat.two_pow_pos (n)
              have HPW2 := Lib.hid (pow_wrap (show n < 40 by omega))
              go_wp2_with fail
              (try rw [HPW2.out])
              refine (less_anyI _ _ _ _ _ _ (by decide) (in_u32 hpq0 hpq) A13.out.sto).mono ?_
              rintro e w20 ⟨_, rfl, ⟨z, rfl, z0, z1⟩, hS, hB⟩
              clear HPW2
              obtain ⟨rw0, rfl⟩ : ∃ x : Nat, z = x := ⟨z.toNat, by omega⟩
              have hrw0 : rw0 < 2 ^ n := by omega
              have A20 := Lib.hid (A13.out.draw hS hB)
              clear hS hB A13 hpq hpq0 z0 z1
              go_wp2_with fail
              refine (seldom_anyI _ _ _ _ _ _ (by decide) (by decide) A20.out.sto).mono ?_
              rintro e w21 ⟨_, rfl, ⟨z, rfl⟩, hS, hB⟩
              have A21 := Lib.hid (A20.out.draw hS hB)
              clear hS hB A20
              cases z
              · have hT0 : True := trivial
                have hwc := which_call hn1.1 (show n ≤ 16 by omega) (show l.length ≤ 24 by omega) HLT.out A21.out.i0 hrw0 (c := c)
                have HTS : Hid (∀ k : Nat, k < 4194304 → ∀ w', Ints w' p (casts l) → Calls Tryd.prog 18 #[.slice p l.length c, .int .i64 (k : Int)] w' (fun e w'' => e = .returned (.int .i64 ((tot l k : Nat) : Int)) ∧ w'' = w')) := fun k hk w' h => by
                  rw [← prod_tot]
                  exact lw_totalS l (by omega) (lt24 (by omega) HLT.out) k (by omega) p c w' h
                have hpm9 : (2 ^ l.length : Nat) ≤ 256 := Nat.pow_le_pow_right (by omega) (show l.length ≤ 8 by omega)
                have HPM := Lib.hid hpm9
                have HPWm := Lib.hid (pow_wrap (show l.length < 40 by omega))
                clear hpm9
                rcases which_spec HLT.out (by omega) (by omega) hrw0 with ⟨y0, hy1, hy2, hy3, hy4⟩ | ⟨hy1, hy2⟩
                · rw [hy1] at hwc
                  have HWC := Lib.hid hwc
                  have HY4 := Lib.hid hy4
                  have HY2 := Lib.hid hy2
                  clear hwc hy1 hy4 hy2
                  have HLe : Hid ((y0 : Int) < wrap64 (2 ^ l.length)) := by
                    show (y0 : Int) < wrap64 (2 ^ l.length)
                    rw [HPWm.out]
                    exact_mod_cast HY2.out
                  have htt := HTS.out y0 (Nat.lt_of_lt_of_le HY2.out (Nat.le_trans HPM.out (by decide)))
                  rw [hy3] at htt
                  have HTT := Lib.hid htt
                  clear htt
                  go_wp2_with fail
                  refine HWC.out.mono ?_
                  rintro e w31 ⟨rfl, hb31⟩
                  have A31 := Lib.hid (A21.out.call hb31)
                  clear hb31 A21 HWC
                  go_upto_region 41 with fail
                  have hd1 : decide ((y0 : Int) < 0) = false := decide_eq_false (Int.not_lt.2 (Int.natCast_nonneg _))
                  have hd2 : decide (wrap64 (2 ^ l.length) ≤ (y0 : Int)) = false := decide_eq_false (Int.not_le.2 HLe.out)
                  go_wp2_with fail
                  refine (HTT.out _ A31.out.i0).mono ?_
                  rintro e w32 ⟨rfl, rfl⟩
                  clear hd1 hd2 HTT
                  go_wp2_with fail
                  (try rw [HPWm.out])
                  obtain ⟨R, hR⟩ : ∃ R, 2 ^ l.length = R := ⟨_, rfl⟩
                  have hRM : R ≤ 256 := hR ▸ HPM.out
                  have HYR : Hid (y0 < R) := hR ▸ HY2.out
                  rw [hR]
                  clear hR
                  have A33 : Hid (∃ mm, At w bs L mm [(.slice p l.length c, l)] _) := Lib.hid ⟨_, A31.out⟩
                  clear A31 HLe
                  go_loopw [177] (fun vi wr => ∃ k : Nat, k ≤ R ∧ vi = .int .i64 k ∧ (∀ z, z < k → tot l z ≠ rw0) ∧ Hid (∃ mm, At w bs L mm [(.slice p l.length c, l)] wr)) (fun vi _ => R - (intOf vi).toNat)
                  case atStart => exact ⟨0, Nat.zero_le _, rfl, fun z hz => by omega, A33⟩
                  case round =>
                    obtain ⟨k, hk, rfl, hnek, A34⟩ := hrel
                    clear A33
                    have HNE := Lib.hid hnek
                    clear hnek
                    obtain ⟨mm, a34⟩ := A34.out
                    have A35 := Lib.hid a34
                    clear a34 A34
                    by_cases hkm : k < R
                    · have htk := HTS.out k (by omega) _ A35.out.i0
                      have hkm' : (k : Int) < R := by exact_mod_cast hkm
                      by_cases heq : tot l k = rw0
                      · have hky : k = y0 := by
                          have h1 : ¬ y0 < k := fun h => HNE.out y0 h hy3
                          have h2 : ¬ k < y0 := fun h => HY4.out k h heq
                          omega
                        rw [heq] at htk
                        have HTk := Lib.hid htk
                        clear htk
                        subst hky
                        go_wp2_with fail
                        refine HTk.out.mono ?_
                        rintro e w36 ⟨rfl, rfl⟩
                        go_wp2_with fail
                        refine (bt_awake _ (A35.out.tab HT.out)).mono ?_
                        rintro e w37 ⟨rfl, hb37⟩
                        have A37 := Lib.hid (A35.out.call hb37)
                        clear hb37 A35
                        go_wp2_with fail
                        go_ret
                        exact ⟨rfl, A37.out.bel⟩
                      · have HTk := Lib.hid htk
                        have hne : ¬ ((tot l k : Nat) : Int) = rw0 := fun h => heq (by exact_mod_cast h)
                        have HNK : Hid (∀ z, z < k + 1 → tot l z ≠ rw0) := fun z hz => by
                          by_cases h : z = k
                          · rw [h]; exact heq
                          · exact HNE.out z (by omega)
                        clear htk heq
                        generalize tot l k = T at *
                        go_wp2_with fail
                        refine HTk.out.mono ?_
                        rintro e w36 ⟨rfl, rfl⟩
                        go_wp2_with fail
                        go_roundw
                        case rel => exact ⟨k + 1, hkm, by go_num, HNK.out, Lib.hid ⟨_, A35.out⟩⟩
                        case measure => simp [intOf]; omega
                    · exact absurd hy3 (HNE.out y0 (Nat.lt_of_lt_of_le HYR.out (by omega)))
                · rw [hy1] at hwc
                  have HWC := Lib.hid hwc
                  have HY2 := Lib.hid hy2
                  clear hwc hy1 hy2
                  go_wp2_with fail
                  refine HWC.out.mono ?_
                  rintro e w31 ⟨rfl, hb31⟩
                  have A31 := Lib.hid (A21.out.call hb31)
                  clear hb31 A21 HWC
                  go_wp2_with fail
                  (try rw [HPWm.out])
                  obtain ⟨R, hR⟩ : ∃ R, 2 ^ l.length = R := ⟨_, rfl⟩
                  have hRM : R ≤ 256 := hR ▸ HPM.out
                  have HYR : Hid (∀ z, z < R → tot l z ≠ rw0) := hR ▸ HY2.out
                  rw [hR]
                  clear hR
                  have A33 : Hid (∃ mm, At w bs L mm [(.slice p l.length c, l)] _) := Lib.hid ⟨_, A31.out⟩
                  clear A31
                  go_loopw [177] (fun vi wr => ∃ k : Nat, k ≤ R ∧ vi = .int .i64 k ∧ Hid (∃ mm, At w bs L mm [(.slice p l.length c, l)] wr)) (fun vi _ => R - (intOf vi).toNat)
                  case atStart => exact ⟨0, Nat.zero_le _, rfl, A33⟩
                  case round =>
                    obtain ⟨k, hk, rfl, A34⟩ := hrel
                    clear A33
                    obtain ⟨mm, a34⟩ := A34.out
                    have A35 := Lib.hid a34
                    clear a34 A34
                    by_cases hkm : k < R
                    · have htk := HTS.out k (by omega) _ A35.out.i0
                      have hkm' : (k : Int) < R := by exact_mod_cast hkm
                      have hne : ¬ ((tot l k : Nat) : Int) = rw0 := fun h => HYR.out k hkm (by exact_mod_cast h)
                      have HTk := Lib.hid htk
                      clear htk
                      generalize tot l k = T at *
                      go_wp2_with fail
                      refine HTk.out.mono ?_
                      rintro e w36 ⟨rfl, rfl⟩
                      go_wp2_with fail
                      go_roundw
                      case rel => exact ⟨k + 1, hkm, by go_num, Lib.hid ⟨_, A35.out⟩⟩
                      case measure => simp [intOf]; omega
                    · have hkm' : ¬ (k : Int) < R := fun h => hkm (by exact_mod_cast h)
                      go_wp2_with fail
                      refine (bt_awake _ (A35.out.tab HT.out)).mono ?_
                      rintro e w37 ⟨rfl, hb37⟩
                      have A37 := Lib.hid (A35.out.call hb37)
                      clear hb37 A35
                      go_wp2_with fail
                      go_ret
                      exact ⟨rfl, A37.out.bel⟩
              · clear hrw0
                have hpq : (2 ^ l.length : Nat) ≤ 65536 := Nat.pow_le_pow_right (by omega) (show l.length ≤ 16 by omega)
                have hpq0 := Nat.two_pow_pos (l.length)
                have HPW2 := Lib.hid (pow_wrap (show l.length < 40 by omega))
                go_wp2_with fail
                (try rw [HPW2.out])
                refine (less_anyI _ _ _ _ _ _ (by decide) (in_u32 hpq0 hpq) A21.out.sto).mono ?_
                rintro e w22 ⟨_, rfl, ⟨z, rfl, z0, z1⟩, hS, hB⟩
                clear HPW2
                obtain ⟨k0, rfl⟩ : ∃ x : Nat, z = x := ⟨z.toNat, by omega⟩
                have hk0 : k0 < 2 ^ l.length := by omega
                have A22 := Lib.hid (A21.out.draw hS hB)
                clear hS hB A21 hpq hpq0 z0 z1
                have htt := lw_total l (by omega) (lt24 (by omega) HLT.out) k0 (by have : (2 ^ l.length : Nat) ≤ 256 := Nat.pow_le_pow_right (by omega) (show l.length ≤ 8 by omega); omega) p c w22 A22.out.i0
                rw [prod_tot] at htt
                have hrw2 : tot l k0 < 2 ^ n := (tot_in l k0).lt HLT.out
                have HTT0 := Lib.hid htt
                clear htt hk0
                generalize tot l k0 = rw2 at *
                go_wp2_with fail
                refine HTT0.out.mono ?_
                rintro e w23 ⟨rfl, hb23⟩
                have A23 := Lib.hid (A22.out.call hb23)
                clear hb23 A22 HTT0
                have hwc := which_call hn1.1 (show n ≤ 16 by omega) (show l.length ≤ 24 by omega) HLT.out A23.out.i0 hrw2 (c := c)
                have HTS : Hid (∀ k : Nat, k < 4194304 → ∀ w', Ints w' p (casts l) → Calls Tryd.prog 18 #[.slice p l.length c, .int .i64 (k : Int)] w' (fun e w'' => e = .returned (.int .i64 ((tot l k : Nat) : Int)) ∧ w'' = w')) := fun k hk w' h => by
                  rw [← prod_tot]
                  exact lw_totalS l (by omega) (lt24 (by omega) HLT.out) k (by omega) p c w' h
                have hpm9 : (2 ^ l.length : Nat) ≤ 256 := Nat.pow_le_pow_right (by omega) (show l.length ≤ 8 by omega)
                have HPM := Lib.hid hpm9
                have HPWm := Lib.hid (pow_wrap (show l.length < 40 by omega))
                clear hpm9
                rcases which_spec HLT.out (by omega) (by omega) hrw2 with ⟨y0, hy1, hy2, hy3, hy4⟩ | ⟨hy1, hy2⟩
                · rw [hy1] at hwc
                  have HWC := Lib.hid hwc
                  have HY4 := Lib.hid hy4
                  have HY2 := Lib.hid hy2
                  clear hwc hy1 hy4 hy2
                  have HLe : Hid ((y0 : Int) < wrap64 (2 ^ l.length)) := by
                    show (y0 : Int) < wrap64 (2 ^ l.length)
                    rw [HPWm.out]
                    exact_mod_cast HY2.out
                  have htt := HTS.out y0 (Nat.lt_of_lt_of_le HY2.out (Nat.le_trans HPM.out (by decide)))
                  rw [hy3] at htt
                  have HTT := Lib.hid htt
                  clear htt
                  go_wp2_with fail
                  refine HWC.out.mono ?_
                  rintro e w31 ⟨rfl, hb31⟩
                  have A31 := Lib.hid (A23.out.call hb31)
                  clear hb31 A23 HWC
                  go_upto_region 41 with fail
                  have hd1 : decide ((y0 : Int) < 0) = false := decide_eq_false (Int.not_lt.2 (Int.natCast_nonneg _))
                  have hd2 : decide (wrap64 (2 ^ l.length) ≤ (y0 : Int)) = false := decide_eq_false (Int.not_le.2 HLe.out)
                  go_wp2_with fail
                  refine (HTT.out _ A31.out.i0).mono ?_
                  rintro e w32 ⟨rfl, rfl⟩
                  clear hd1 hd2 HTT
                  go_wp2_with fail
                  (try rw [HPWm.out])
                  obtain ⟨R, hR⟩ : ∃ R, 2 ^ l.length = R := ⟨_, rfl⟩
                  have hRM : R ≤ 256 := hR ▸ HPM.out
                  have HYR : Hid (y0 < R) := hR ▸ HY2.out
                  rw [hR]
                  clear hR
                  have A33 : Hid (∃ mm, At w bs L mm [(.slice p l.length c, l)] _) := Lib.hid ⟨_, A31.out⟩
                  clear A31 HLe
                  go_loopw [177] (fun vi wr => ∃ k : Nat, k ≤ R ∧ vi = .int .i64 k ∧ (∀ z, z < k → tot l z ≠ rw2) ∧ Hid (∃ mm, At w bs L mm [(.slice p l.length c, l)] wr)) (fun vi _ => R - (intOf vi).toNat)
                  case atStart => exact ⟨0, Nat.zero_le _, rfl, fun z hz => by omega, A33⟩
                  case round =>
                    obtain ⟨k, hk, rfl, hnek, A34⟩ := hrel
                    clear A33
                    have HNE := Lib.hid hnek
                    clear hnek
                    obtain ⟨mm, a34⟩ := A34.out
                    have A35 := Lib.hid a34
                    clear a34 A34
                    by_cases hkm : k < R
                    · have htk := HTS.out k (by omega) _ A35.out.i0
                      have hkm' : (k : Int) < R := by exact_mod_cast hkm
                      by_cases heq : tot l k = rw2
                      · have hky : k = y0 := by
                          have h1 : ¬ y0 < k := fun h => HNE.out y0 h hy3
                          have h2 : ¬ k < y0 := fun h => HY4.out k h heq
                          omega
                        rw [heq] at htk
                        have HTk := Lib.hid htk
                        clear htk
                        subst hky
                        go_wp2_with fail
                        refine HTk.out.mono ?_
                        rintro e w36 ⟨rfl, rfl⟩
                        go_wp2_with fail
                        refine (bt_awake _ (A35.out.tab HT.out)).mono ?_
                        rintro e w37 ⟨rfl, hb37⟩
                        have A37 := Lib.hid (A35.out.call hb37)
                        clear hb37 A35
                        go_wp2_with fail
                        go_ret
                        exact ⟨rfl, A37.out.bel⟩
                      · have HTk := Lib.hid htk
                        have hne : ¬ ((tot l k : Nat) : Int) = rw2 := fun h => heq (by exact_mod_cast h)
                        have HNK : Hid (∀ z, z < k + 1 → tot l z ≠ rw2) := fun z hz => by
                          by_cases h : z = k
                          · rw [h]; exact heq
                          · exact HNE.out z (by omega)
                        clear htk heq
                        generalize tot l k = T at *
                        go_wp2_with fail
                        refine HTk.out.mono ?_
                        rintro e w36 ⟨rfl, rfl⟩
                        go_wp2_with fail
                        go_roundw
                        case rel => exact ⟨k + 1, hkm, by go_num, HNK.out, Lib.hid ⟨_, A35.out⟩⟩
                        case measure => simp [intOf]; omega
                    · exact absurd hy3 (HNE.out y0 (Nat.lt_of_lt_of_le HYR.out (by omega)))
                · rw [hy1] at hwc
                  have HWC := Lib.hid hwc
                  have HY2 := Lib.hid hy2
                  clear hwc hy1 hy2
                  go_wp2_with fail
                  refine HWC.out.mono ?_
                  rintro e w31 ⟨rfl, hb31⟩
                  have A31 := Lib.hid (A23.out.call hb31)
                  clear hb31 A23 HWC
                  go_wp2_with fail
                  (try rw [HPWm.out])
                  obtain ⟨R, hR⟩ : ∃ R, 2 ^ l.length = R := ⟨_, rfl⟩
                  have hRM : R ≤ 256 := hR ▸ HPM.out
                  have HYR : Hid (∀ z, z < R → tot l z ≠ rw2) := hR ▸ HY2.out
                  rw [hR]
                  clear hR
                  have A33 : Hid (∃ mm, At w bs L mm [(.slice p l.length c, l)] _) := Lib.hid ⟨_, A31.out⟩
                  clear A31
                  go_loopw [177] (fun vi wr => ∃ k : Nat, k ≤ R ∧ vi = .int .i64 k ∧ Hid (∃ mm, At w bs L mm [(.slice p l.length c, l)] wr)) (fun vi _ => R - (intOf vi).toNat)
                  case atStart => exact ⟨0, Nat.zero_le _, rfl, A33⟩
                  case round =>
                    obtain ⟨k, hk, rfl, A34⟩ := hrel
                    clear A33
                    obtain ⟨mm, a34⟩ := A34.out
                    have A35 := Lib.hid a34
                    clear a34 A34
                    by_cases hkm : k < R
                    · have htk := HTS.out k (by omega) _ A35.out.i0
                      have hkm' : (k : Int) < R := by exact_mod_cast hkm
                      have hne : ¬ ((tot l k : Nat) : Int) = rw2 := fun h => HYR.out k hkm (by exact_mod_cast h)
                      have HTk := Lib.hid htk
                      clear htk
                      generalize tot l k = T at *
                      go_wp2_with fail
                      refine HTk.out.mono ?_
                      rintro e w36 ⟨rfl, rfl⟩
                      go_wp2_with fail
                      go_roundw
                      case rel => exact ⟨k + 1, hkm, by go_num, Lib.hid ⟨_, A35.out⟩⟩
                      case measure => simp [intOf]; omega
                    · have hkm' : ¬ (k : Int) < R := fun h => hkm (by exact_mod_cast h)
                      go_wp2_with fail
                      refine (bt_awake _ (A35.out.tab HT.out)).mono ?_
                      rintro e w37 ⟨rfl, hb37⟩
                      have A37 := Lib.hid (A35.out.call hb37)
                      clear hb37 A35
                      go_wp2_with fail
                      go_ret
                      exact ⟨rfl, A37.out.bel⟩
        · rw [hx1] at hsc
          have HSC := Lib.hid hsc
          obtain ⟨zc, hz1, hz2, hz3⟩ := contra HLT.out hb1 hx2
          have HBB := Lib.hid hb1
          have hpm4 : (2 ^ l.length : Nat) ≤ 256 := Nat.pow_le_pow_right (by omega) (show l.length ≤ 8 by omega)
          have hb256 : b1 < 256 := Nat.lt_of_lt_of_le hb1 hpm4
          obtain ⟨F, hF⟩ : ∃ F : Nat → Bool, (fun z => decide (tot l z = 0) && dotB l.length z b1) = F := ⟨_, rfl⟩
          have HFE : Hid (∀ z, F z = (decide (tot l z = 0) && dotB l.length z b1)) := fun z => by rw [← hF]
          have HFZ : Hid (F zc = true) := by
            show F zc = true
            rw [← hF]
            simp [hz2, hz3]
          have HPWm := Lib.hid (pow_wrap (show l.length < 40 by omega))
          have HZ1 := Lib.hid hz1
          have HPM := Lib.hid hpm4
          clear hsc hx1 hx2 hz1 hz2 hz3 hF hpm4 hb1
          go_wp2_with fail
          refine HSC.out.mono ?_
          rintro e w11 ⟨rfl, hb11⟩
          have A11 := Lib.hid (A7.out.call hb11)
          clear hb11 A7 HSC
          go_wp2_with fail
          (try rw [HPWm.out])
          obtain ⟨R, hR⟩ : ∃ R, 2 ^ l.length = R := ⟨_, rfl⟩
          have hRM : R ≤ 256 := hR ▸ HPM.out
          have HZR : Hid (zc < R) := hR ▸ HZ1.out
          have HBR : Hid (2 ^ l.length = R) := hR
          rw [hR]
          clear hR
          go_loopw [20, 110] (fun vn vi wr => ∃ k : Nat, k ≤ R ∧ vi = .int .i64 k ∧ vn = .bool ((List.range k).any F) ∧ Hid (At w bs L (0 + 1 + 1 + 1) [(.slice p l.length c, l)] wr)) (fun _ vi _ => R - (intOf vi).toNat)
          case atStart => exact ⟨0, by omega, rfl, rfl, A11⟩
          case round =>
            obtain ⟨k, hk, rfl, rfl, A13⟩ := hrel
            clear A11
            by_cases hkR : k < R
            · have hkR' : (k : Int) < R := by omega
              have hnx : (List.range (k + 1)).any F = ((List.range k).any F || F k) := by rw [List.range_succ, List.any_append]; simp
              have HNX := Lib.hid hnx
              clear hnx
              cases hP : (List.range k).any F
              · rw [hP] at HNX
                have hTk := lw_total l (by omega) (lt24 (by omega) HLT.out) k (by omega) p c wr A13.out.i0
                rw [prod_tot] at hTk
                have HTk := Lib.hid hTk
                have hand := i64_and_nat k b1 (by omega) (by omega)
                have HOk := Lib.hid (fun w' => odd_call (r := k) (show l.length ≤ 62 by omega) HBB.out w')
                have hfe := HFE.out k
                clear hTk hP
                by_cases hT0 : tot l k = 0
                · rw [hT0] at HTk
                  rw [decide_eq_true hT0, Bool.true_and] at hfe
                  have HN2 : Hid ((List.range (k + 1)).any F = dotB l.length k b1) := HNX.out.trans (by rw [hfe]; rfl)
                  clear hT0 hfe HNX
                  generalize dotB l.length k b1 = D at *
                  go_wp2_with fail
                  refine HTk.out.mono ?_
                  rintro e w14 ⟨rfl, hb14⟩
                  have A14 := Lib.hid (A13.out.call hb14)
                  clear hb14 A13 HTk
                  go_wp2_with fail
                  (try rw [hand])
                  refine (HOk.out _).mono ?_
                  rintro e w15 ⟨rfl, hb15⟩
                  have A15 := Lib.hid (A14.out.call hb15)
                  clear hb15 A14 HOk
                  go_wp2_with fail
                  go_roundw
                  case rel => exact ⟨k + 1, hkR, by go_num, by rw [HN2.out], A15⟩
                  case measure => simp [intOf]; omega
                · rw [decide_eq_false hT0, Bool.false_and] at hfe
                  have HN2 : Hid ((List.range (k + 1)).any F = false) := HNX.out.trans (by rw [hfe]; rfl)
                  have hne : ¬ ((tot l k : Nat) : Int) = 0 := by omega
                  clear hT0 hfe HNX
                  generalize tot l k = T at *
                  go_wp2_with fail
                  refine HTk.out.mono ?_
                  rintro e w14 ⟨rfl, hb14⟩
                  have A14 := Lib.hid (A13.out.call hb14)
                  clear hb14 A13 HTk
                  go_wp2_with fail
                  go_roundw
                  case rel => exact ⟨k + 1, hkR, by go_num, by rw [HN2.out], A14⟩
                  case measure => simp [intOf]; omega
              · rw [hP] at HNX
                have HN2 : Hid ((List.range (k + 1)).any F = true) := HNX.out.trans rfl
                clear hP HNX
                go_wp2_with fail
                go_roundw
                case rel => exact ⟨k + 1, hkR, by go_num, by rw [HN2.out], A13⟩
                case measure => simp [intOf]; omega
            · have hkR' : ¬ (k : Int) < R := by omega
              have hany : (List.range k).any F = true := List.any_eq_true.2 ⟨zc, List.mem_range.2 (Nat.lt_of_lt_of_le HZR.out (by omega)), HFZ.out⟩
              rw [hany]
              clear hany HZR HZ1 HFZ HFE HBB hb256 hRM HBR
              have hpq : (2 ^ n : Nat) ≤ 65536 := Nat.pow_le_pow_right (by omega) (show n ≤ 16 by omega)
              have hpq0 := Nat.two_pow_pos (n)
              have HPW2 := Lib.hid (pow_wrap (show n < 40 by omega))
              go_wp2_with fail
              (try rw [HPW2.out])
              refine (less_anyI _ _ _ _ _ _ (by decide) (in_u32 hpq0 hpq) A13.out.sto).mono ?_
              rintro e w20 ⟨_, rfl, ⟨z, rfl, z0, z1⟩, hS, hB⟩
              clear HPW2
              obtain ⟨rw0, rfl⟩ : ∃ x : Nat, z = x := ⟨z.toNat, by omega⟩
              have hrw0 : rw0 < 2 ^ n := by omega
              have A20 := Lib.hid (A13.out.draw hS hB)
              clear hS hB A13 hpq hpq0 z0 z1
              go_wp2_with fail
              refine (seldom_anyI _ _ _ _ _ _ (by decide) (by decide) A20.out.sto).mono ?_
              rintro e w21 ⟨_, rfl, ⟨z, rfl⟩, hS, hB⟩
              have A21 := Lib.hid (A20.out.draw hS hB)
              clear hS hB A20
              cases z
              · have hT0 : True := trivial
                have hwc := which_call hn1.1 (show n ≤ 16 by omega) (show l.length ≤ 24 by omega) HLT.out A21.out.i0 hrw0 (c := c)
                have HTS : Hid (∀ k : Nat, k < 4194304 → ∀ w', Ints w' p (casts l) → Calls Tryd.prog 18 #[.slice p l.length c, .int .i64 (k : Int)] w' (fun e w'' => e = .returned (.int .i64 ((tot l k : Nat) : Int)) ∧ w'' = w')) := fun k hk w' h => by
                  rw [← prod_tot]
                  exact lw_totalS l (by omega) (lt24 (by omega) HLT.out) k (by omega) p c w' h
                have hpm9 : (2 ^ l.length : Nat) ≤ 256 := Nat.pow_le_pow_right (by omega) (show l.length ≤ 8 by omega)
                have HPM := Lib.hid hpm9
                have HPWm := Lib.hid (pow_wrap (show l.length < 40 by omega))
                clear hpm9
                rcases which_spec HLT.out (by omega) (by omega) hrw0 with ⟨y0, hy1, hy2, hy3, hy4⟩ | ⟨hy1, hy2⟩
                · rw [hy1] at hwc
                  have HWC := Lib.hid hwc
                  have HY4 := Lib.hid hy4
                  have HY2 := Lib.hid hy2
                  clear hwc hy1 hy4 hy2
                  have HLe : Hid ((y0 : Int) < wrap64 (2 ^ l.length)) := by
                    show (y0 : Int) < wrap64 (2 ^ l.length)
                    rw [HPWm.out]
                    exact_mod_cast HY2.out
                  have htt := HTS.out y0 (Nat.lt_of_lt_of_le HY2.out (Nat.le_trans HPM.out (by decide)))
                  rw [hy3] at htt
                  have HTT := Lib.hid htt
                  clear htt
                  go_wp2_with fail
                  refine HWC.out.mono ?_
                  rintro e w31 ⟨rfl, hb31⟩
                  have A31 := Lib.hid (A21.out.call hb31)
                  clear hb31 A21 HWC
                  go_upto_region 41 with fail
                  have hd1 : decide ((y0 : Int) < 0) = false := decide_eq_false (Int.not_lt.2 (Int.natCast_nonneg _))
                  have hd2 : decide (wrap64 (2 ^ l.length) ≤ (y0 : Int)) = false := decide_eq_false (Int.not_le.2 HLe.out)
                  go_wp2_with fail
                  refine (HTT.out _ A31.out.i0).mono ?_
                  rintro e w32 ⟨rfl, rfl⟩
                  clear hd1 hd2 HTT
                  go_wp2_with fail
                  (try rw [HPWm.out])
                  obtain ⟨R, hR⟩ : ∃ R, 2 ^ l.length = R := ⟨_, rfl⟩
                  have hRM : R ≤ 256 := hR ▸ HPM.out
                  have HYR : Hid (y0 < R) := hR ▸ HY2.out
                  rw [hR]
                  clear hR
                  have A33 : Hid (∃ mm, At w bs L mm [(.slice p l.length c, l)] _) := Lib.hid ⟨_, A31.out⟩
                  clear A31 HLe
                  go_loopw [177] (fun vi wr => ∃ k : Nat, k ≤ R ∧ vi = .int .i64 k ∧ (∀ z, z < k → tot l z ≠ rw0) ∧ Hid (∃ mm, At w bs L mm [(.slice p l.length c, l)] wr)) (fun vi _ => R - (intOf vi).toNat)
                  case atStart => exact ⟨0, Nat.zero_le _, rfl, fun z hz => by omega, A33⟩
                  case round =>
                    obtain ⟨k, hk, rfl, hnek, A34⟩ := hrel
                    clear A33
                    have HNE := Lib.hid hnek
                    clear hnek
                    obtain ⟨mm, a34⟩ := A34.out
                    have A35 := Lib.hid a34
                    clear a34 A34
                    by_cases hkm : k < R
                    · have htk := HTS.out k (by omega) _ A35.out.i0
                      have hkm' : (k : Int) < R := by exact_mod_cast hkm
                      by_cases heq : tot l k = rw0
                      · have hky : k = y0 := by
                          have h1 : ¬ y0 < k := fun h => HNE.out y0 h hy3
                          have h2 : ¬ k < y0 := fun h => HY4.out k h heq
                          omega
                        rw [heq] at htk
                        have HTk := Lib.hid htk
                        clear htk
                        subst hky
                        go_wp2_with fail
                        refine HTk.out.mono ?_
                        rintro e w36 ⟨rfl, rfl⟩
                        go_wp2_with fail
                        refine (bt_awake _ (A35.out.tab HT.out)).mono ?_
                        rintro e w37 ⟨rfl, hb37⟩
                        have A37 := Lib.hid (A35.out.call hb37)
                        clear hb37 A35
                        go_wp2_with fail
                        go_ret
                        exact ⟨rfl, A37.out.bel⟩
                      · have HTk := Lib.hid htk
                        have hne : ¬ ((tot l k : Nat) : Int) = rw0 := fun h => heq (by exact_mod_cast h)
                        have HNK : Hid (∀ z, z < k + 1 → tot l z ≠ rw0) := fun z hz => by
                          by_cases h : z = k
                          · rw [h]; exact heq
                          · exact HNE.out z (by omega)
                        clear htk heq
                        generalize tot l k = T at *
                        go_wp2_with fail
                        refine HTk.out.mono ?_
                        rintro e w36 ⟨rfl, rfl⟩
                        go_wp2_with fail
                        go_roundw
                        case rel => exact ⟨k + 1, hkm, by go_num, HNK.out, Lib.hid ⟨_, A35.out⟩⟩
                        case measure => simp [intOf]; omega
                    · exact absurd hy3 (HNE.out y0 (Nat.lt_of_lt_of_le HYR.out (by omega)))
                · rw [hy1] at hwc
                  have HWC := Lib.hid hwc
                  have HY2 := Lib.hid hy2
                  clear hwc hy1 hy2
                  go_wp2_with fail
                  refine HWC.out.mono ?_
                  rintro e w31 ⟨rfl, hb31⟩
                  have A31 := Lib.hid (A21.out.call hb31)
                  clear hb31 A21 HWC
                  go_wp2_with fail
                  (try rw [HPWm.out])
                  obtain ⟨R, hR⟩ : ∃ R, 2 ^ l.length = R := ⟨_, rfl⟩
                  have hRM : R ≤ 256 := hR ▸ HPM.out
                  have HYR : Hid (∀ z, z < R → tot l z ≠ rw0) := hR ▸ HY2.out
                  rw [hR]
                  clear hR
                  have A33 : Hid (∃ mm, At w bs L mm [(.slice p l.length c, l)] _) := Lib.hid ⟨_, A31.out⟩
                  clear A31
                  go_loopw [177] (fun vi wr => ∃ k : Nat, k ≤ R ∧ vi = .int .i64 k ∧ Hid (∃ mm, At w bs L mm [(.slice p l.length c, l)] wr)) (fun vi _ => R - (intOf vi).toNat)
                  case atStart => exact ⟨0, Nat.zero_le _, rfl, A33⟩
                  case round =>
                    obtain ⟨k, hk, rfl, A34⟩ := hrel
                    clear A33
                    obtain ⟨mm, a34⟩ := A34.out
                    have A35 := Lib.hid a34
                    clear a34 A34
                    by_cases hkm : k < R
                    · have htk := HTS.out k (by omega) _ A35.out.i0
                      have hkm' : (k : Int) < R := by exact_mod_cast hkm
                      have hne : ¬ ((tot l k : Nat) : Int) = rw0 := fun h => HYR.out k hkm (by exact_mod_cast h)
                      have HTk := Lib.hid htk
                      clear htk
                      generalize tot l k = T at *
                      go_wp2_with fail
                      refine HTk.out.mono ?_
                      rintro e w36 ⟨rfl, rfl⟩
                      go_wp2_with fail
                      go_roundw
                      case rel => exact ⟨k + 1, hkm, by go_num, Lib.hid ⟨_, A35.out⟩⟩
                      case measure => simp [intOf]; omega
                    · have hkm' : ¬ (k : Int) < R := fun h => hkm (by exact_mod_cast h)
                      go_wp2_with fail
                      refine (bt_awake _ (A35.out.tab HT.out)).mono ?_
                      rintro e w37 ⟨rfl, hb37⟩
                      have A37 := Lib.hid (A35.out.call hb37)
                      clear hb37 A35
                      go_wp2_with fail
                      go_ret
                      exact ⟨rfl, A37.out.bel⟩
              · clear hrw0
                have hpq : (2 ^ l.length : Nat) ≤ 65536 := Nat.pow_le_pow_right (by omega) (show l.length ≤ 16 by omega)
                have hpq0 := Nat.two_pow_pos (l.length)
                have HPW2 := Lib.hid (pow_wrap (show l.length < 40 by omega))
                go_wp2_with fail
                (try rw [HPW2.out])
                refine (less_anyI _ _ _ _ _ _ (by decide) (in_u32 hpq0 hpq) A21.out.sto).mono ?_
                rintro e w22 ⟨_, rfl, ⟨z, rfl, z0, z1⟩, hS, hB⟩
                clear HPW2
                obtain ⟨k0, rfl⟩ : ∃ x : Nat, z = x := ⟨z.toNat, by omega⟩
                have hk0 : k0 < 2 ^ l.length := by omega
                have A22 := Lib.hid (A21.out.draw hS hB)
                clear hS hB A21 hpq hpq0 z0 z1
                have htt := lw_total l (by omega) (lt24 (by omega) HLT.out) k0 (by have : (2 ^ l.length : Nat) ≤ 256 := Nat.pow_le_pow_right (by omega) (show l.length ≤ 8 by omega); omega) p c w22 A22.out.i0
                rw [prod_tot] at htt
                have hrw2 : tot l k0 < 2 ^ n := (tot_in l k0).lt HLT.out
                have HTT0 := Lib.hid htt
                clear htt hk0
                generalize tot l k0 = rw2 at *
                go_wp2_with fail
                refine HTT0.out.mono ?_
                rintro e w23 ⟨rfl, hb23⟩
                have A23 := Lib.hid (A22.out.call hb23)
                clear hb23 A22 HTT0
                have hwc := which_call hn1.1 (show n ≤ 16 by omega) (show l.length ≤ 24 by omega) HLT.out A23.out.i0 hrw2 (c := c)
                have HTS : Hid (∀ k : Nat, k < 4194304 → ∀ w', Ints w' p (casts l) → Calls Tryd.prog 18 #[.slice p l.length c, .int .i64 (k : Int)] w' (fun e w'' => e = .returned (.int .i64 ((tot l k : Nat) : Int)) ∧ w'' = w')) := fun k hk w' h => by
                  rw [← prod_tot]
                  exact lw_totalS l (by omega) (lt24 (by omega) HLT.out) k (by omega) p c w' h
                have hpm9 : (2 ^ l.length : Nat) ≤ 256 := Nat.pow_le_pow_right (by omega) (show l.length ≤ 8 by omega)
                have HPM := Lib.hid hpm9
                have HPWm := Lib.hid (pow_wrap (show l.length < 40 by omega))
                clear hpm9
                rcases which_spec HLT.out (by omega) (by omega) hrw2 with ⟨y0, hy1, hy2, hy3, hy4⟩ | ⟨hy1, hy2⟩
                · rw [hy1] at hwc
                  have HWC := Lib.hid hwc
                  have HY4 := Lib.hid hy4
                  have HY2 := Lib.hid hy2
                  clear hwc hy1 hy4 hy2
                  have HLe : Hid ((y0 : Int) < wrap64 (2 ^ l.length)) := by
                    show (y0 : Int) < wrap64 (2 ^ l.length)
                    rw [HPWm.out]
                    exact_mod_cast HY2.out
                  have htt := HTS.out y0 (Nat.lt_of_lt_of_le HY2.out (Nat.le_trans HPM.out (by decide)))
                  rw [hy3] at htt
                  have HTT := Lib.hid htt
                  clear htt
                  go_wp2_with fail
                  refine HWC.out.mono ?_
                  rintro e w31 ⟨rfl, hb31⟩
                  have A31 := Lib.hid (A23.out.call hb31)
                  clear hb31 A23 HWC
                  go_upto_region 41 with fail
                  have hd1 : decide ((y0 : Int) < 0) = false := decide_eq_false (Int.not_lt.2 (Int.natCast_nonneg _))
                  have hd2 : decide (wrap64 (2 ^ l.length) ≤ (y0 : Int)) = false := decide_eq_false (Int.not_le.2 HLe.out)
                  go_wp2_with fail
                  refine (HTT.out _ A31.out.i0).mono ?_
                  rintro e w32 ⟨rfl, rfl⟩
                  clear hd1 hd2 HTT
                  go_wp2_with fail
                  (try rw [HPWm.out])
                  obtain ⟨R, hR⟩ : ∃ R, 2 ^ l.length = R := ⟨_, rfl⟩
                  have hRM : R ≤ 256 := hR ▸ HPM.out
                  have HYR : Hid (y0 < R) := hR ▸ HY2.out
                  rw [hR]
                  clear hR
                  have A33 : Hid (∃ mm, At w bs L mm [(.slice p l.length c, l)] _) := Lib.hid ⟨_, A31.out⟩
                  clear A31 HLe
                  go_loopw [177] (fun vi wr => ∃ k : Nat, k ≤ R ∧ vi = .int .i64 k ∧ (∀ z, z < k → tot l z ≠ rw2) ∧ Hid (∃ mm, At w bs L mm [(.slice p l.length c, l)] wr)) (fun vi _ => R - (intOf vi).toNat)
                  case atStart => exact ⟨0, Nat.zero_le _, rfl, fun z hz => by omega, A33⟩
                  case round =>
                    obtain ⟨k, hk, rfl, hnek, A34⟩ := hrel
                    clear A33
                    have HNE := Lib.hid hnek
                    clear hnek
                    obtain ⟨mm, a34⟩ := A34.out
                    have A35 := Lib.hid a34
                    clear a34 A34
                    by_cases hkm : k < R
                    · have htk := HTS.out k (by omega) _ A35.out.i0
                      have hkm' : (k : Int) < R := by exact_mod_cast hkm
                      by_cases heq : tot l k = rw2
                      · have hky : k = y0 := by
                          have h1 : ¬ y0 < k := fun h => HNE.out y0 h hy3
                          have h2 : ¬ k < y0 := fun h => HY4.out k h heq
                          omega
                        rw [heq] at htk
                        have HTk := Lib.hid htk
                        clear htk
                        subst hky
                        go_wp2_with fail
                        refine HTk.out.mono ?_
                        rintro e w36 ⟨rfl, rfl⟩
                        go_wp2_with fail
                        refine (bt_awake _ (A35.out.tab HT.out)).mono ?_
                        rintro e w37 ⟨rfl, hb37⟩
                        have A37 := Lib.hid (A35.out.call hb37)
                        clear hb37 A35
                        go_wp2_with fail
                        go_ret
                        exact ⟨rfl, A37.out.bel⟩
                      · have HTk := Lib.hid htk
                        have hne : ¬ ((tot l k : Nat) : Int) = rw2 := fun h => heq (by exact_mod_cast h)
                        have HNK : Hid (∀ z, z < k + 1 → tot l z ≠ rw2) := fun z hz => by
                          by_cases h : z = k
                          · rw [h]; exact heq
                          · exact HNE.out z (by omega)
                        clear htk heq
                        generalize tot l k = T at *
                        go_wp2_with fail
                        refine HTk.out.mono ?_
                        rintro e w36 ⟨rfl, rfl⟩
                        go_wp2_with fail
                        go_roundw
                        case rel => exact ⟨k + 1, hkm, by go_num, HNK.out, Lib.hid ⟨_, A35.out⟩⟩
                        case measure => simp [intOf]; omega
                    · exact absurd hy3 (HNE.out y0 (Nat.lt_of_lt_of_le HYR.out (by omega)))
                · rw [hy1] at hwc
                  have HWC := Lib.hid hwc
                  have HY2 := Lib.hid hy2
                  clear hwc hy1 hy2
                  go_wp2_with fail
                  refine HWC.out.mono ?_
                  rintro e w31 ⟨rfl, hb31⟩
                  have A31 := Lib.hid (A23.out.call hb31)
                  clear hb31 A23 HWC
                  go_wp2_with fail
                  (try rw [HPWm.out])
                  obtain ⟨R, hR⟩ : ∃ R, 2 ^ l.length = R := ⟨_, rfl⟩
                  have hRM : R ≤ 256 := hR ▸ HPM.out
                  have HYR : Hid (∀ z, z < R → tot l z ≠ rw2) := hR ▸ HY2.out
                  rw [hR]
                  clear hR
                  have A33 : Hid (∃ mm, At w bs L mm [(.slice p l.length c, l)] _) := Lib.hid ⟨_, A31.out⟩
                  clear A31
                  go_loopw [177] (fun vi wr => ∃ k : Nat, k ≤ R ∧ vi = .int .i64 k ∧ Hid (∃ mm, At w bs L mm [(.slice p l.length c, l)] wr)) (fun vi _ => R - (intOf vi).toNat)
                  case atStart => exact ⟨0, Nat.zero_le _, rfl, A33⟩
                  case round =>
                    obtain ⟨k, hk, rfl, A34⟩ := hrel
                    clear A33
                    obtain ⟨mm, a34⟩ := A34.out
                    have A35 := Lib.hid a34
                    clear a34 A34
                    by_cases hkm : k < R
                    · have htk := HTS.out k (by omega) _ A35.out.i0
                      have hkm' : (k : Int) < R := by exact_mod_cast hkm
                      have hne : ¬ ((tot l k : Nat) : Int) = rw2 := fun h => HYR.out k hkm (by exact_mod_cast h)
                      have HTk := Lib.hid htk
                      clear htk
                      generalize tot l k = T at *
                      go_wp2_with fail
                      refine HTk.out.mono ?_
                      rintro e w36 ⟨rfl, rfl⟩
                      go_wp2_with fail
                      go_roundw
                      case rel => exact ⟨k + 1, hkm, by go_num, Lib.hid ⟨_, A35.out⟩⟩
                      case measure => simp [intOf]; omega
                    · have hkm' : ¬ (k : Int) < R := fun h => hkm (by exact_mod_cast h)
                      go_wp2_with fail
                      refine (bt_awake _ (A35.out.tab HT.out)).mono ?_
                      rintro e w37 ⟨rfl, hb37⟩
                      have A37 := Lib.hid (A35.out.call hb37)
                      clear hb37 A35
                      go_wp2_with fail
                      go_ret
                      exact ⟨rfl, A37.out.bel⟩
end Go.Proofs.YtpnancidgobehaaDoor
