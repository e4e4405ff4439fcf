
/- BitsOrthogonal: for all bytes. -/
import Derived.Test.YtpnancidgobehaaDoorYk
set_option linter.all false
set_option maxRecDepth 100000
namespace Go.Proofs.YtpnancidgobehaaDoor
open Go.RowKit
theorem orth1_call (x y n : Nat) (hn : n ≤ 16) (hx : x < 2 ^ n) (hy : y < 2 ^ n) (bx : Nat) (w : World) (hc : w.cell? ⟨bx, 0, none⟩ = some (.int .i64 (x : Int))) :
    Calls Tryd.prog 20 #[.int .i64 (y : Int), .pointer (some ⟨bx, 0, none⟩)] w (Gives (.bool (dotB n x y)) w) := by
  have hp : (2 ^ n : Nat) ≤ 65536 := Nat.pow_le_pow_right (by omega) (show n ≤ 16 by omega)
  have hO : Hid (∀ w, Calls Tryd.prog 15 #[.int .i64 ((x &&& y : Nat) : Int)] w (Gives (.bool (dotB n x y)) w)) := fun w => odd_call (by omega) hy w
  have hand := i64_and_nat x y (by omega) (by omega)
  clear hx hy hp
  go_enter Tryd.func20, Tryd.ntmps20
  go_wp2_with fail
  (try rw [hand])
  refine (hO.out _).mono ?_
  rintro e w1 ⟨rfl, hb1⟩
  go_wp2_with fail
  go_ret
  exact ⟨rfl, hb1⟩
theorem cell_lt {w : World} {k o : Nat} {v : Value} (hc : w.cell? ⟨k, o, none⟩ = some v) : k < w.heap.size := by
  rcases Nat.lt_or_ge k w.heap.size with h' | h'
  · exact h'
  · simp [World.cell?, Array.getElem?_eq_none h'] at hc
/-- A variable of its own in memory. -/
def CellI (w : World) (k : Nat) (x : Nat) : Prop := w.heap[k]? = some (.cells #[.int .i64 (x : Int)] 3 (0, 0))
theorem CellI.lt {w : World} {k x : Nat} (h : CellI w k x) : k < w.heap.size := (Array.getElem?_eq_some_iff.1 h).1
theorem CellI.cell {w : World} {k x : Nat} (h : CellI w k x) : w.cell? ⟨k, 0, none⟩ = some (.int .i64 (x : Int)) := by
  unfold CellI at h
  simp [World.cell?, h]
theorem CellI.free {w : World} {k x : Nat} (h : CellI w k x) : w.frozen? ⟨k, 0, none⟩ = false := by
  unfold CellI at h
  simp [World.frozen?, h]
theorem CellI.call {w w' : World} {k x : Nat} (h : CellI w k x) (hb : Below w.heap.size w w') : CellI w' k x := (hb.block k h.lt).trans h
theorem CellI.beside {w w' : World} {b k x : Nat} (h : CellI w k x) (hb : Beside b w w') (hn : k ≠ b) : CellI w' k x := (hb.block k h.lt hn).trans h
theorem CellI.set {w : World} {k x : Nat} (h : CellI w k x) (y : Nat) : CellI (w.setCell ⟨k, 0, none⟩ (.int .i64 (y : Int))) k y := heap_set h
set_option maxHeartbeats 8000000 in
theorem BitsOrthogonal_any (pn : Option Addr) (nn cn col : Nat) (hcol : col ≤ 255) (w : World) (hN : GivenI w pn nn cn) (hT : Tabbed w) :
    Calls Tryd.prog 3 #[.slice pn nn cn, .int .u8 (col : Int)] w (Gives (.bool true) w) := by
  have HN := Lib.hid hN
  have HT := Lib.hid hT
  clear hN hT
  go_enter Tryd.func3, Tryd.ntmps3
  go_wp2_with fail
  refine (Of_anyI _ _ _ _ HN.out).mono ?_
  rintro e w1 ⟨bs, rfl, hbs, hS1, hb1⟩
  obtain ⟨L, hL⟩ : ∃ L, w1.heap.size = L := ⟨_, rfl⟩
  rw [hL] at hS1
  have A1 : Hid (At w bs L 0 [] w1) := ⟨hb1, hS1, fun q hq => by cases hq⟩
  clear hS1 hb1 hL HN
  obtain ⟨n, hn⟩ : ∃ n : Nat, 1 + (col : Int) % 10 = n := ⟨1 + col % 10, by omega⟩
  have hn1 : 1 ≤ n ∧ n ≤ 10 := by omega
  go_wp2_with fail
  refine (lw_Made _ _ _ _ n 8 (by omega) (by omega) (by omega) _ A1.out.sto).mono ?_
  intro e w2 hmade
  obtain ⟨p, c, l, rfl, hl8, hlt, a2⟩ := A1.out.made hmade
  have A2 := Lib.hid a2
  have HLT := Lib.hid hlt
  clear hmade a2 hlt A1 hn
  go_wp2_with fail
  refine (null_call hn1.1 (by omega) (by omega) HLT.out A2.out.i0).mono ?_
  intro e w3 hE
  obtain ⟨pn2, cn2, rfl, a3⟩ := A2.out.list hE
  have A3 := Lib.hid a3
  clear a3 hE A2
  go_wp2_with fail
  refine (reduce_call hn1.1 (by omega) (by omega) HLT.out A3.out.i1).mono ?_
  intro e w4 hE
  obtain ⟨pr, cr, rfl, a4⟩ := A3.out.list hE
  have A4 := Lib.hid a4
  clear a4 hE A3
  have HNL := Lib.hid (orthR_lt HLT.out)
  have hrn := rank_null HLT.out
  have hsum : ((orthR l n).length : Int) + ((redR l n).length : Int) = n := by omega
  have hor := orthR_spec HLT.out
  have HDT : Hid (∀ x ∈ orthR l n, ∀ y ∈ l, dotB n x y = false) := fun x hx y hy => by rw [dotB_comm]; exact ((hor.2 x).1 (.of_mem hx)).2 y hy
  have HIN : Hid (∀ x, x < 2 ^ n → (((orthR l n).all fun y => !dotB n x y) = true ↔ InSp l x)) := fun x hx => by
    rw [← orth_orth HLT.out, List.all_eq_true]
    constructor
    · intro h
      exact ⟨hx, fun r hr => by rw [dotB_comm]; simpa using h r hr⟩
    · intro h r hr
      have := h.2 r hr
      rw [dotB_comm] at this
      simp [this]
  have hbk := orth_twice HLT.out
  have HNC : Hid (∀ w' p c, Ints w' p (casts (orthR l n)) → Calls Tryd.prog 12 #[.slice p (orthR l n).length c, .int .i64 (n : Int)] w' (ListE (redR l n) 0 w')) := fun w' p c h => by
    have := null_call hn1.1 (by omega) (by omega) HNL.out h (c := c)
    rw [hbk] at this
    exact this
  clear hor hbk
  generalize orthR l n = N at *
  generalize redR l n = R at *
  go_wp2_with fail
  refine (lw_rows N n (by omega) (by omega) HNL.out _ _ _ A4.out.i1).mono ?_
  rintro e w5 ⟨rfl, hb5⟩
  have A5 := Lib.hid (A4.out.call hb5)
  clear hb5 A4
  go_wp2_with fail
  refine (HNC.out _ _ _ A5.out.i1).mono ?_
  intro e w6 hE
  obtain ⟨pb, cb, rfl, a6⟩ := A5.out.list hE
  have A6 := Lib.hid a6
  clear a6 hE A5 HNC
  obtain ⟨LS, hLS⟩ : ∃ LS, [(Value.slice pb R.length cb, R), (Value.slice pr R.length cr, R), (Value.slice pn2 N.length cn2, N), (Value.slice p l.length c, l)] = LS := ⟨_, rfl⟩
  have HI0 : Hid (∀ m wr, At w bs L m LS wr → Ints wr pb (casts R)) := fun m wr h => by subst hLS; exact h.i0
  have HI1 : Hid (∀ m wr, At w bs L m LS wr → Ints wr pr (casts R)) := fun m wr h => by subst hLS; exact h.i1
  have HI2 : Hid (∀ m wr, At w bs L m LS wr → Ints wr pn2 (casts N)) := fun m wr h => by subst hLS; exact h.i2
  have HI3 : Hid (∀ m wr, At w bs L m LS wr → Ints wr p (casts l)) := fun m wr h => by subst hLS; exact h.i3
  have B6 : Hid (At w bs L (0 + 200) LS w6) := by subst hLS; exact A6.out
  clear A6 hLS
  have HOD : Hid (∀ x ∈ N, ∀ y ∈ l, ∀ w', Calls Tryd.prog 15 #[.int .i64 ((x &&& y : Nat) : Int)] w' (Gives (.bool false) w')) := fun x hx y hy w' => by
    have := odd_call (r := x) (by omega) (HLT.out y hy) w'
    rw [HDT.out x hx y hy] at this
    exact this
  have hpn : (2 ^ n : Nat) ≤ 65536 := Nat.pow_le_pow_right (by omega) (show n ≤ 16 by omega)
  have HND : Hid (∀ x ∈ N, ∀ y ∈ l, Go.bits .and .i64 (x : Int) (y : Int) = ((x &&& y : Nat) : Int)) := fun x hx y hy => i64_and_nat x y (Nat.lt_of_lt_of_le (HNL.out x hx) (by omega)) (Nat.lt_of_lt_of_le (HLT.out y hy) (by omega))
  clear hpn HDT
  go_wp2_with fail
  go_loopw [70] (fun vi wr => ∃ k : Nat, k ≤ N.length ∧ vi = .int .i64 k ∧ Hid (At w bs L (0 + 200) LS wr)) (fun vi _ => N.length - (intOf vi).toNat)
  case atStart => exact ⟨0, by omega, rfl, B6⟩
  case round =>
    obtain ⟨j, hj, rfl, B7⟩ := hrel
    clear B6
    by_cases hjn : j < N.length
    · obtain ⟨x, hxk⟩ : ∃ x, N[j]? = some x := ⟨_, List.getElem?_eq_getElem hjn⟩
      obtain ⟨b, off, rfl, hb, hcx⟩ := (HI2.out _ _ B7.out).at_ (casts_at hxk)
      have HX := Lib.hid (List.mem_of_getElem? hxk)
      clear hxk
      go_wp2_with fail
      go_loopw [76] (fun vi wr => ∃ k : Nat, k ≤ l.length ∧ vi = .int .i64 k ∧ Hid (At w bs L (0 + 200) LS wr)) (fun vi _ => l.length - (intOf vi).toNat)
      case atStart => exact ⟨0, by omega, rfl, B7⟩
      case round =>
        obtain ⟨i, hi, rfl, B8⟩ := hrel
        clear B7
        by_cases hil : i < l.length
        · obtain ⟨y, hyk⟩ : ∃ y, l[i]? = some y := ⟨_, List.getElem?_eq_getElem hil⟩
          obtain ⟨b3, off3, rfl, hb3, hcy⟩ := (HI3.out _ _ B8.out).at_ (casts_at hyk)
          have HY := Lib.hid (List.mem_of_getElem? hyk)
          have hand := HND.out x HX.out y HY.out
          clear hyk
          go_wp2_with fail
          (try rw [hand])
          refine (HOD.out x HX.out y HY.out _).mono ?_
          rintro e w9 ⟨rfl, hb9⟩
          have B9 := Lib.hid (B8.out.call hb9)
          clear hb9 B8
          go_wp2_with fail
          go_roundw
          case rel => exact ⟨i + 1, by omega, by go_num, B9⟩
          case measure => simp [intOf]; omega
        · go_wp2_with fail
          go_roundw
          case rel => exact ⟨j + 1, by omega, by go_num, B8⟩
          case measure => simp [intOf]; omega
    · have hpw := pow_wrap (show n < 40 by omega)
      have hpx : IntKind.i64.wrap ((2 : Int) ^ n) = ((2 ^ n : Nat) : Int) := (IntWalk.i64_left _).trans hpw
      have hpn : (2 ^ n : Nat) ≤ 65536 := Nat.pow_le_pow_right (by omega) (show n ≤ 16 by omega)
      have hp0 := Nat.two_pow_pos n
      clear HOD HND
      go_wp2_with fail
      (try rw [hpw])
      (try rw [hpx])
      refine (less_anyI _ _ _ _ _ _ (by decide) (in_u32 hp0 hpn) B7.out.sto).mono ?_
      rintro e w8 ⟨_, rfl, ⟨z, rfl, z0, z1⟩, hS, hB⟩
      clear hpw hpx
      obtain ⟨x, rfl⟩ : ∃ x : Nat, z = x := ⟨z.toNat, by omega⟩
      have hxn : x < 2 ^ n := by omega
      have B8 := Lib.hid (B7.out.draw hS hB)
      clear hS hB B7
      go_wp2_with fail
      obtain ⟨bx, hbx⟩ : ∃ bx, w8.heap.size = bx := ⟨_, rfl⟩
      have hLs := B8.out.sto.1.2
      have E9 : Hid (Beside bs w8 (w8.alloc (Obj.cells #[Value.int IntKind.i64 (x : Int)] 3))) := (Beside.refl bs w8).al _
      have S9 : Hid (StoreIn (w8.alloc (Obj.cells #[Value.int IntKind.i64 (x : Int)] 3)) bs L w.heap.size (0 + 200 + 1)) := B8.out.sto.below ((Below.refl L w8).alloc hLs.2 _)
      have C9 : Hid (CellI (w8.alloc (Obj.cells #[Value.int IntKind.i64 (x : Int)] 3)) bx x) := hbx ▸ heap_alloc_new w8 _
      rw [hbx]
      generalize w8.alloc (Obj.cells #[Value.int IntKind.i64 (x : Int)] 3) = w9 at *
      refine (seldom_anyI _ _ _ _ _ _ (by decide) (by decide) S9.out).mono ?_
      rintro e w10 ⟨_, rfl, ⟨s, rfl⟩, hS, hB⟩
      have C10 : Hid (CellI w10 bx x) := C9.out.beside hB (by omega)
      have E10 := Lib.hid (E9.out.trans hB)
      have S10 := Lib.hid hS
      clear hS hB E9 S9 C9
      cases s
      · go_wp2_with fail
        have B11 := Lib.hid (B8.out.draw S10.out E10.out)
        have hT := HIN.out x hxn
        have HM := member_call hn1.1 (by omega) (by omega) HLT.out (HI3.out _ _ B11.out) hxn _ hT (c := c)
        have hany : (N.any fun y => dotB n x y) = !(N.all fun y => !dotB n x y) := by rw [List.not_all_eq_any_not]; simp
        have HC := has_orth (fun y => dotB n x y) N (by omega) pn2 cn2 bx w10 (HI2.out _ _ B11.out) (fun y hy w' hb => orth1_call x y n (by omega) hxn (HNL.out y hy) bx w' ((C10.out.call hb).cell))
        rw [hany] at HC
        clear hany hT
        have HMm := Lib.hid (fun w' (hb : Below w10.heap.size w10 w') => member_call hn1.1 (by omega) (by omega) HLT.out ((HI3.out _ _ B11.out).below hb) hxn _ (HIN.out x hxn) (c := c))
        have HEq : Hid (∀ w', Below w10.heap.size w10 w' → Calls Tryd.prog 22 #[.slice pb R.length cb, .slice pr R.length cr] w' (Gives (.bool true) w')) := fun w' hb => by
          have := bt_Equal (casts R) (casts R) pb pr cb cr w' ((HI0.out _ _ B11.out).below hb) ((HI1.out _ _ B11.out).below hb) (by rw [casts_len]; omega) (by rw [casts_len]; omega)
          rw [casts_len, decide_eq_true rfl] at this
          exact this
        have HA : Hid (∀ w', Below w10.heap.size w10 w' → Calls Tryd.prog 23 #[] w' (Gives (.bool true) w')) := fun w' hb => bt_awake w' ((B11.out.tab HT.out).below hb)
        have HW := Lib.hid B11.out.bel
        have hcx : Hid (∀ w', Below w10.heap.size w10 w' → w'.cell? ⟨bx, 0, none⟩ = some (.int .i64 (x : Int))) := fun w' hb => (C10.out.call hb).cell
        generalize (N.all fun y => !dotB n x y) = T at *
        have HC2 := Lib.hid HC
        clear HC HM C10 E10 S10 B11 B8 HIN HI0 HI1 HI2 HI3
        refine HC2.out.mono ?_
        rintro e w21 ⟨rfl, hb21⟩
        have hcx1 := hcx.out _ hb21
        clear HC2 hcx
        go_wp2_with fail
        refine (HMm.out _ hb21).mono ?_
        rintro e w22 ⟨rfl, hb22⟩
        replace hb22 := below_via hb22 hb21
        clear hb21 HMm hcx1
        go_wp2_with fail
        refine (HEq.out _ hb22).mono ?_
        rintro e w23 ⟨rfl, hb23⟩
        replace hb23 := below_via hb23 hb22
        clear hb22 HEq
        cases T
        all_goals
          go_wp2_with fail
          refine (HA.out _ hb23).mono ?_
          rintro e w24 ⟨rfl, hb24⟩
          have hb25 := below_via (below_via hb24 hb23) HW.out
          go_wp2_with fail
          go_ret
          exact ⟨rfl, hb25⟩
      · have hpw := pow_wrap (show l.length < 40 by omega)
        have hpx : IntKind.i64.wrap ((2 : Int) ^ l.length) = ((2 ^ l.length : Nat) : Int) := (IntWalk.i64_left _).trans hpw
        have hpl : (2 ^ l.length : Nat) ≤ 65536 := Nat.pow_le_pow_right (by omega) (show l.length ≤ 16 by omega)
        have hpl0 := Nat.two_pow_pos l.length
        go_wp2_with fail
        (try rw [hpw])
        (try rw [hpx])
        refine (less_anyI _ _ _ _ _ _ (by decide) (in_u32 hpl0 hpl) S10.out).mono ?_
        rintro e w11 ⟨_, rfl, ⟨z, rfl, y0, y1⟩, hS, hB⟩
        clear hpw hpx
        obtain ⟨k, rfl⟩ : ∃ k : Nat, z = k := ⟨z.toNat, by omega⟩
        have C11 : Hid (CellI w11 bx x) := C10.out.beside hB (by omega)
        have E11 := Lib.hid (E10.out.trans hB)
        have S11 := Lib.hid hS
        clear hS hB E10 S10 C10
        have HTo := Lib.hid (lw_total l (by omega) (lt24 (by omega) HLT.out) k (by omega) p c w11 (HI3.out _ _ (B8.out.draw S11.out E11.out)))
        rw [prod_tot] at HTo
        have htn : tot l k < 2 ^ n := (tot_in l k).lt HLT.out
        generalize tot l k = x2 at *
        go_wp2_with fail
        refine HTo.out.mono ?_
        rintro e w12 ⟨rfl, hb12⟩
        have C12 : Hid (CellI w12 bx x) := C11.out.call hb12
        have E12 := Lib.hid (E11.out.trans (Beside.of hb12))
        have S12 := Lib.hid (S11.out.below (bl_wider hb12 S11.out.1.2.2))
        clear hb12 E11 S11 C11 HTo
        have hcx := C12.out.cell
        have hfx := C12.out.free
        go_wp2_with fail
        have C13 : Hid (CellI (w12.setCell ⟨bx, 0, none⟩ (.int .i64 (x2 : Int))) bx x2) := C12.out.set x2
        have E13 := Lib.hid (E12.out.other (Nat.le_of_eq hbx) 0 (.int .i64 (x2 : Int)))
        have S13 := Lib.hid (S12.out.below ((Below.refl L w12).setCell (p := ⟨bx, 0, none⟩) (by show L ≤ bx; omega) (.int .i64 (x2 : Int))))
        clear C12 E12 S12 hcx hfx
        generalize w12.setCell ⟨bx, 0, none⟩ (.int .i64 (x2 : Int)) = w13 at *
        have B11 := Lib.hid (B8.out.draw S13.out E13.out)
        have hT := HIN.out x2 htn
        have HM := member_call hn1.1 (by omega) (by omega) HLT.out (HI3.out _ _ B11.out) htn _ hT (c := c)
        have hany : (N.any fun y => dotB n x2 y) = !(N.all fun y => !dotB n x2 y) := by rw [List.not_all_eq_any_not]; simp
        have HC := has_orth (fun y => dotB n x2 y) N (by omega) pn2 cn2 bx w13 (HI2.out _ _ B11.out) (fun y hy w' hb => orth1_call x2 y n (by omega) htn (HNL.out y hy) bx w' ((C13.out.call hb).cell))
        rw [hany] at HC
        clear hany hT
        have HMm := Lib.hid (fun w' (hb : Below w13.heap.size w13 w') => member_call hn1.1 (by omega) (by omega) HLT.out ((HI3.out _ _ B11.out).below hb) htn _ (HIN.out x2 htn) (c := c))
        have HEq : Hid (∀ w', Below w13.heap.size w13 w' → Calls Tryd.prog 22 #[.slice pb R.length cb, .slice pr R.length cr] w' (Gives (.bool true) w')) := fun w' hb => by
          have := bt_Equal (casts R) (casts R) pb pr cb cr w' ((HI0.out _ _ B11.out).below hb) ((HI1.out _ _ B11.out).below hb) (by rw [casts_len]; omega) (by rw [casts_len]; omega)
          rw [casts_len, decide_eq_true rfl] at this
          exact this
        have HA : Hid (∀ w', Below w13.heap.size w13 w' → Calls Tryd.prog 23 #[] w' (Gives (.bool true) w')) := fun w' hb => bt_awake w' ((B11.out.tab HT.out).below hb)
        have HW := Lib.hid B11.out.bel
        have hcx : Hid (∀ w', Below w13.heap.size w13 w' → w'.cell? ⟨bx, 0, none⟩ = some (.int .i64 (x2 : Int))) := fun w' hb => (C13.out.call hb).cell
        generalize (N.all fun y => !dotB n x2 y) = T at *
        have HC2 := Lib.hid HC
        clear HC HM C13 E13 S13 B11 B8 HIN HI0 HI1 HI2 HI3
        refine HC2.out.mono ?_
        rintro e w21 ⟨rfl, hb21⟩
        have hcx1 := hcx.out _ hb21
        clear HC2 hcx
        go_wp2_with fail
        refine (HMm.out _ hb21).mono ?_
        rintro e w22 ⟨rfl, hb22⟩
        replace hb22 := below_via hb22 hb21
        clear hb21 HMm hcx1
        go_wp2_with fail
        refine (HEq.out _ hb22).mono ?_
        rintro e w23 ⟨rfl, hb23⟩
        replace hb23 := below_via hb23 hb22
        clear hb22 HEq
        cases T
        all_goals
          go_wp2_with fail
          refine (HA.out _ hb23).mono ?_
          rintro e w24 ⟨rfl, hb24⟩
          have hb25 := below_via (below_via hb24 hb23) HW.out
          go_wp2_with fail
          go_ret
          exact ⟨rfl, hb25⟩
end Go.Proofs.YtpnancidgobehaaDoor
