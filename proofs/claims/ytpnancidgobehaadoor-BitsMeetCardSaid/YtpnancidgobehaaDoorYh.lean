
/- BitsMeet: for all bytes. -/
import Derived.Test.YtpnancidgobehaaDoorYt
import Derived.Test.YtpnancidgobehaaDoorBl
set_option linter.all false
set_option maxRecDepth 100000
namespace Go.Proofs.YtpnancidgobehaaDoor
open Go.RowKit
theorem StoreIn.low {w : World} {b L lo lo' : Nat} {m : Int} (h : StoreIn w b L lo m) (hl : lo' ≤ lo) : StoreIn w b L lo' m := by
  obtain ⟨hL, p, n, c, next, st, h, h1, h2, h3, h4, h5⟩ := h
  refine ⟨⟨by omega, hL.2⟩, p, n, c, next, st, h, h1, h2, h3, h4, ?_⟩
  rcases h5 with h5 | ⟨bb, off, e, g0, g⟩
  · exact .inl h5
  · exact .inr ⟨bb, off, e, by omega, g⟩
/-- Two stores, of which the elder was asked. -/
theorem At.two {w w1 w2 w3 : World} {bs bt L L2 n most : Nat} {m m2 : Int} {e : Ending} (h : At w bs L m [] w1) (hL : L = w1.heap.size) (S2 : StoreIn w2 bt L2 w1.heap.size m2) (hb2 : Below w1.heap.size w1 w2) {mx : Int} (hM : MadePost w2 bs L w.heap.size mx n most e w3) :
    ∃ p c l, e = .returned (.slice p l.length c) ∧ l.length ≤ most ∧ (∀ x ∈ l, x < 2 ^ n) ∧ At w bt L2 m2 [(.slice p l.length c, l)] w3 := by
  obtain ⟨v, l, rfl, h1, h2, h3, h4⟩ := hM
  have hlt := h.sto.1
  have hlt2 := S2.1
  have hsz := h.bel.size
  obtain ⟨p, c, rfl⟩ := h3.own.slice
  have ho := h3.own
  rw [casts_len] at ho ⊢
  refine ⟨p, c, l, rfl, h1, h2, bl_then (bl_then h.bel (bl_wider hb2 hsz)) (h3.bes.below hlt.1 (by have := hb2.size; omega)), (S2.others h3.bes (by omega)).low hsz, fun q hq => ?_⟩
  rw [List.mem_singleton.1 hq]
  exact ho.low (by omega)
theorem meet_call {a b : List Nat} {n : Nat} (h1 : 1 ≤ n) (hn : n ≤ 16) (hal : a.length ≤ 24) (hbl : b.length ≤ 24) (ha : ∀ x ∈ a, x < 2 ^ n) (hb : ∀ x ∈ b, x < 2 ^ n) {p q : Option Addr} {ca cb : Nat} {w : World} (h : Ints w p (casts a)) (hy : Ints w q (casts b)) :
    Calls Tryd.prog 36 #[.slice p a.length ca, .slice q b.length cb, .int .i64 (n : Int)] w (ListE (meetR a b n) 0 w) := by
  have := bt_Meet (casts a) (casts b) n p q ca cb w h hy (by rw [casts_len]; omega) (by rw [casts_len]; omega)
  unfold MeetM checkedM at this
  rw [check_right h1 hn hal ha, check_right h1 hn hbl hb, if_pos rfl, if_pos rfl, nats_of, nats_of, Int.toNat_natCast, meet_same hn ha hb hal hbl, casts_len, casts_len] at this
  exact this
theorem cell2_new0 (w : World) (u v : Value) (T : TypeId) : (w.alloc (.cells #[u, v] T)).cell? ⟨w.heap.size, 0, none⟩ = some u := by
  unfold World.cell?
  dsimp only
  rw [heap_alloc_new]
  rfl
theorem cell2_new1 (w : World) (u v : Value) (T : TypeId) : (w.alloc (.cells #[u, v] T)).cell? ⟨w.heap.size, 1, none⟩ = some v := by
  unfold World.cell?
  dsimp only
  rw [heap_alloc_new]
  rfl
set_option maxHeartbeats 8000000 in
theorem BitsMeet_any (pn pm : Option Addr) (nn cn nm cm col : Nat) (hcol : col ≤ 255) (w : World) (hN : GivenI w pn nn cn) (hM : GivenI w pm nm cm) (hT : Tabbed w) :
    Calls Tryd.prog 7 #[.slice pn nn cn, .slice pm nm cm, .int .u8 (col : Int)] w (Gives (.bool true) w) := by
  have HN := Lib.hid hN
  have HM := Lib.hid hM
  have HT := Lib.hid hT
  clear hN hM hT
  go_enter Tryd.func7, Tryd.ntmps7
  go_wp2_with fail
  refine (Of_anyI _ _ _ _ HN.out).mono ?_
  rintro e w1 ⟨bs, rfl, hbs, hS1, hb1⟩
  obtain ⟨L, hL⟩ : ∃ L, w1.heap.size = L := ⟨_, rfl⟩
  rw [hL] at hS1
  have A1 : Hid (At w bs L 0 [] w1) := ⟨hb1, hS1, fun q hq => by cases hq⟩
  have HMM := Lib.hid (HM.out.below hb1)
  clear hS1 hb1 HN HM
  go_wp2_with fail
  refine (Of_anyI _ _ _ _ HMM.out).mono ?_
  rintro e w2 ⟨bt, rfl, hbt, hS2, hb2⟩
  obtain ⟨L2, hL2⟩ : ∃ L, w2.heap.size = L := ⟨_, rfl⟩
  rw [hL2] at hS2
  have S2 := Lib.hid hS2
  have HB2 := Lib.hid hb2
  have S1 := Lib.hid (A1.out.sto.below (bl_wider hb2 A1.out.sto.1.2.2))
  clear hS2 hb2 HMM
  obtain ⟨n, hn⟩ : ∃ n : Nat, 1 + (col : Int) % 12 = n := ⟨1 + col % 12, by omega⟩
  have hn1 : 1 ≤ n ∧ n ≤ 12 := by omega
  go_wp2_with fail
  refine (lw_Made _ _ _ _ n 7 (by omega) (by omega) (by omega) _ S1.out).mono ?_
  intro e w3 hmade
  obtain ⟨p, ca, a, rfl, ha7, hla, a3⟩ := A1.out.two hL.symm S2.out HB2.out hmade
  have A3 := Lib.hid a3
  have HLA := Lib.hid hla
  clear hmade a3 hla A1 hn S1 S2 HB2 hL2
  go_wp2_with fail
  refine (lw_Made _ _ _ _ n 7 (by omega) (by omega) (by omega) _ A3.out.sto).mono ?_
  rintro e w4 ⟨v, b, rfl, hb7, hlb, hg, hs⟩
  obtain ⟨q, cb, rfl⟩ := hg.own.slice
  rw [casts_len] at hg ⊢
  have G4 := Lib.hid hg
  have S4 := Lib.hid hs
  have HLB := Lib.hid hlb
  clear hg hs hlb
  by_cases hl0 : a.length = 0
  · have hl1 : ¬ (0 : Int) < a.length := by omega
    clear hl0
    have A5 := Lib.hid ((A3.out.draw S4.out G4.out.bes).cons (G4.out.own.low (by have := A3.out.sto.1.2; omega)))
    clear A3 G4 S4
    have hrk := meet_rank (by omega) HLA.out HLB.out
    have hlen := rank_null HLA.out
    have hlen2 := rank_null HLB.out
    have hmsp := meetR_spec HLA.out HLB.out
    have HMS : Hid (∀ r ∈ meetR a b n, InSp a r ∧ InSp b r) := fun r hr => (hmsp.2 r).1 (.of_mem hr)
    have HML : Hid (∀ r ∈ meetR a b n, r < 2 ^ n) := fun r hr => ((hmsp.2 r).1 (.of_mem hr)).1.lt HLA.out
    have hown := redR_own hmsp.1 HML.out
    have hmc := meet_comm HLB.out HLA.out
    have HC1 := Lib.hid (fun w' (h1 : Ints w' p (casts a)) (h2 : Ints w' q (casts b)) c1 c2 => meet_call hn1.1 (show n ≤ 16 by omega) (show a.length ≤ 24 by omega) (show (b).length ≤ 24 by omega) HLA.out HLB.out h1 h2 (ca := c1) (cb := c2))
    have HC2 := Lib.hid (fun w' (h1 : Ints w' p (casts a)) (h2 : Ints w' q (casts b)) c1 c2 => meet_call hn1.1 (show n ≤ 16 by omega) (show (b).length ≤ 24 by omega) (show a.length ≤ 24 by omega) HLB.out HLA.out h2 h1 (ca := c1) (cb := c2))
    have HOWN := Lib.hid hown
    have hcat : ∀ x ∈ a ++ b, x < 2 ^ n := fun x hx => (List.mem_append.1 hx).elim (HLA.out x) (HLB.out x)
    have HRC := Lib.hid (fun w' p' c' (h : Ints w' p' (casts (a ++ b))) => rank_call hn1.1 (show n ≤ 16 by omega) (show (a ++ b).length ≤ 24 by rw [List.length_append]; omega) hcat h (c := c'))
    have HRA := Lib.hid (fun w' c' (h : Ints w' p (casts a)) => rank_call hn1.1 (show n ≤ 16 by omega) (show a.length ≤ 24 by omega) HLA.out h (c := c'))
    have HRB := Lib.hid (fun w' c' (h : Ints w' q (casts b)) => rank_call hn1.1 (show n ≤ 16 by omega) (show (b).length ≤ 24 by omega) HLB.out h (c := c'))
    have HMA := Lib.hid (fun x hx w' c' (h : Ints w' p (casts a)) => member_yes hn1.1 (show n ≤ 16 by omega) (show a.length ≤ 24 by omega) HLA.out (HMS.out x hx).1 h (c := c'))
    have HMB := Lib.hid (fun x hx w' c' (h : Ints w' q (casts b)) => member_yes hn1.1 (show n ≤ 16 by omega) (show (b).length ≤ 24 by omega) HLB.out (HMS.out x hx).2 h (c := c'))
    rw [hmc] at HC2
    clear hmsp hown hmc hcat HMS
    have hml : (meetR a b n).length ≤ 24 := by omega
    generalize meetR a b n = M at *
    generalize (redR a n).length = ra at *
    generalize (redR b n).length = rb at *
    generalize (redR (a ++ b) n).length = rc at *
    have hrki : (ra : Int) + rb = rc + M.length := by omega
    clear hlen hlen2
    go_wp2_with fail
    refine (HC1.out _ A5.out.i1 A5.out.i0 _ _).mono ?_
    intro e w6 hE
    obtain ⟨p6, c6, rfl, a6⟩ := A5.out.list hE
    have A6 := Lib.hid a6
    clear a6 hE A5 HC1
    go_wp2_with fail
    refine (HC2.out _ A6.out.i2 A6.out.i1 _ _).mono ?_
    intro e w7 hE
    obtain ⟨p7, c7, rfl, a7⟩ := A6.out.list hE
    have A7 := Lib.hid a7
    clear a7 hE A6 HC2
    go_wp2_with fail
    refine (HRA.out _ _ A7.out.i3).mono ?_
    rintro e w8 ⟨rfl, hb8⟩
    have A8 := Lib.hid (A7.out.call hb8)
    clear hb8 A7 HRA
    go_wp2_with fail
    refine (HRB.out _ _ A8.out.i2).mono ?_
    rintro e w9 ⟨rfl, hb9⟩
    have A9 := Lib.hid (A8.out.call hb9)
    clear hb9 A8 HRB
    go_wp2_with fail
    have B9 := Lib.hid (A9.out.call ((Below.refl _ w9).alloc (Nat.le_refl _) (Obj.cells #[Value.slice p a.length ca, Value.slice q (b).length cb] 25)))
    have K0 := cell2_new0 w9 (Value.slice p a.length ca) (Value.slice q (b).length cb) 25
    have K1 := cell2_new1 w9 (Value.slice p a.length ca) (Value.slice q (b).length cb) 25
    have hcc := lw_Concat a b (Value.slice p a.length ca) (Value.slice q (b).length cb) (bt + 1) w9.heap.size (by omega) (by omega) _ (B9.out.own (_, a) (by simp)) (B9.out.own (_, b) (by simp)) (by rw [World.size_alloc]; omega) K0 K1
    have HCC := Lib.hid hcc
    clear hcc K0 K1 A9
    generalize w9.alloc (Obj.cells #[Value.slice p a.length ca, Value.slice q (b).length cb] 25) = w10 at *
    refine HCC.out.mono ?_
    rintro e w11 ⟨v11, rfl, hg11⟩
    obtain ⟨p11, c11, rfl, hi11⟩ := hg11.own.ints
    rw [casts_len]
    have hrc := HRC.out w11 p11 c11 hi11
    rw [List.length_append] at hrc
    have HRCC := Lib.hid hrc
    have A11 := Lib.hid (B9.out.call hg11.bel)
    clear hg11 hi11 hrc HRC HCC B9
    go_wp2_with fail
    refine HRCC.out.mono ?_
    rintro e w12 ⟨rfl, hb12⟩
    have A12 := Lib.hid (A11.out.call hb12)
    clear hb12 A11 HRCC
    have HEq : Hid (∀ w', Ints w' p6 (casts M) → Ints w' p7 (casts M) → Calls Tryd.prog 22 #[.slice p6 M.length c6, .slice p7 M.length c7] w' (Gives (.bool true) w')) := fun w' h6 h7 => by
      have := bt_Equal (casts M) (casts M) p6 p7 c6 c7 w' h6 h7 (by rw [casts_len]; omega) (by rw [casts_len]; omega)
      rw [casts_len, decide_eq_true rfl] at this
      exact this
    go_wp2_with fail
    refine (HEq.out _ A12.out.i1 A12.out.i0).mono ?_
    rintro e w13 ⟨rfl, hb13⟩
    have A13 := Lib.hid (A12.out.call hb13)
    clear hb13 A12 HEq
    obtain ⟨LS, hLS⟩ : ∃ LS, [(Value.slice p7 M.length c7, M), (Value.slice p6 M.length c6, M), (Value.slice q (b).length cb, b), (Value.slice p a.length ca, a)] = LS := ⟨_, rfl⟩
    have HI1 : Hid (∀ m wr, At w bt L2 m LS wr → Ints wr p6 (casts M)) := fun m wr h => by subst hLS; exact h.i1
    have HI2 : Hid (∀ m wr, At w bt L2 m LS wr → Ints wr q (casts b)) := fun m wr h => by subst hLS; exact h.i2
    have HI3 : Hid (∀ m wr, At w bt L2 m LS wr → Ints wr p (casts a)) := fun m wr h => by subst hLS; exact h.i3
    have A14 : Hid (∃ m, At w bt L2 m LS w13) := by subst hLS; exact ⟨_, A13.out⟩
    clear A13 hLS hrk
    go_wp2_with fail
    clear hrki
    go_loopw [131] (fun vi wr => ∃ k : Nat, k ≤ M.length ∧ vi = .int .i64 k ∧ Hid (∃ m, At w bt L2 m LS wr)) (fun vi _ => M.length - (intOf vi).toNat)
    case atStart => exact ⟨0, by omega, rfl, A14⟩
    case round =>
      obtain ⟨j, hj, rfl, A15⟩ := hrel
      clear A14
      obtain ⟨mm, a15⟩ := A15.out
      have B15 := Lib.hid a15
      clear a15 A15
      by_cases hjm : j < M.length
      · obtain ⟨x, hxk⟩ : ∃ x, M[j]? = some x := ⟨_, List.getElem?_eq_getElem hjm⟩
        obtain ⟨b0, off, rfl, hb0, hcx⟩ := (HI1.out _ _ B15.out).at_ (casts_at hxk)
        have HX := Lib.hid (List.mem_of_getElem? hxk)
        clear hxk
        go_wp2_with fail
        refine (HMA.out x HX.out _ _ (HI3.out _ _ B15.out)).mono ?_
        rintro e w16 ⟨rfl, hb16⟩
        have B16 := Lib.hid (B15.out.call hb16)
        clear hb16 B15
        go_wp2_with fail
        refine (HMB.out x HX.out _ _ (HI2.out _ _ B16.out)).mono ?_
        rintro e w17 ⟨rfl, hb17⟩
        have B17 := Lib.hid (B16.out.call hb17)
        clear hb17 B16
        go_wp2_with fail
        go_roundw
        case rel => exact ⟨j + 1, by omega, by go_num, Lib.hid ⟨_, B17.out⟩⟩
        case measure => simp [intOf]; omega
      · have hrd := reduce_call hn1.1 (show n ≤ 16 by omega) hml HML.out (HI1.out _ _ B15.out) (c := c6)
        rw [HOWN.out] at hrd
        have HRR := Lib.hid hrd
        clear hrd
        go_wp2_with fail
        refine HRR.out.mono ?_
        intro e w18 hE
        obtain ⟨p18, c18, rfl, a18⟩ := B15.out.list hE
        have HIO := Lib.hid a18.i0
        have B18 : Hid (At w bt L2 mm LS w18) := ⟨a18.bel, a18.sto, fun q hq => a18.own q (List.mem_cons_of_mem _ hq)⟩
        clear hE a18 HRR B15
        have HEq : Hid (∀ w', Ints w' p18 (casts M) → Ints w' p6 (casts M) → Calls Tryd.prog 22 #[.slice p18 M.length c18, .slice p6 M.length c6] w' (Gives (.bool true) w')) := fun w' h6 h7 => by
          have := bt_Equal (casts M) (casts M) p18 p6 c18 c6 w' h6 h7 (by rw [casts_len]; omega) (by rw [casts_len]; omega)
          rw [casts_len, decide_eq_true rfl] at this
          exact this
        go_wp2_with fail
        refine (HEq.out _ HIO.out (HI1.out _ _ B18.out)).mono ?_
        rintro e w19 ⟨rfl, hb19⟩
        have B19 := Lib.hid (B18.out.call hb19)
        clear hb19 B18 HIO HEq
        go_wp2_with fail
        refine (bt_awake _ (B19.out.tab HT.out)).mono ?_
        rintro e w20 ⟨rfl, hb20⟩
        have B20 := Lib.hid (B19.out.call hb20)
        clear hb20 B19
        go_wp2_with fail
        go_ret
        exact ⟨rfl, B20.out.bel⟩
  · have hl1 : (0 : Int) < a.length := by omega
    go_wp2_with fail
    refine (seldom_anyI _ _ _ _ _ _ (by omega) (by decide) S4.out).mono ?_
    rintro e w5 ⟨_, rfl, ⟨z, rfl⟩, hS, hB⟩
    have G5 := Lib.hid (G4.out.beside hB)
    have S5 := Lib.hid hS
    clear hS hB G4 S4
    cases z
    · have h0 : True := trivial
      have A5 := Lib.hid ((A3.out.draw S5.out G5.out.bes).cons (G5.out.own.low (by have := A3.out.sto.1.2; omega)))
      clear A3 G5 S5
      have hrk := meet_rank (by omega) HLA.out HLB.out
      have hlen := rank_null HLA.out
      have hlen2 := rank_null HLB.out
      have hmsp := meetR_spec HLA.out HLB.out
      have HMS : Hid (∀ r ∈ meetR a b n, InSp a r ∧ InSp b r) := fun r hr => (hmsp.2 r).1 (.of_mem hr)
      have HML : Hid (∀ r ∈ meetR a b n, r < 2 ^ n) := fun r hr => ((hmsp.2 r).1 (.of_mem hr)).1.lt HLA.out
      have hown := redR_own hmsp.1 HML.out
      have hmc := meet_comm HLB.out HLA.out
      have HC1 := Lib.hid (fun w' (h1 : Ints w' p (casts a)) (h2 : Ints w' q (casts b)) c1 c2 => meet_call hn1.1 (show n ≤ 16 by omega) (show a.length ≤ 24 by omega) (show (b).length ≤ 24 by omega) HLA.out HLB.out h1 h2 (ca := c1) (cb := c2))
      have HC2 := Lib.hid (fun w' (h1 : Ints w' p (casts a)) (h2 : Ints w' q (casts b)) c1 c2 => meet_call hn1.1 (show n ≤ 16 by omega) (show (b).length ≤ 24 by omega) (show a.length ≤ 24 by omega) HLB.out HLA.out h2 h1 (ca := c1) (cb := c2))
      have HOWN := Lib.hid hown
      have hcat : ∀ x ∈ a ++ b, x < 2 ^ n := fun x hx => (List.mem_append.1 hx).elim (HLA.out x) (HLB.out x)
      have HRC := Lib.hid (fun w' p' c' (h : Ints w' p' (casts (a ++ b))) => rank_call hn1.1 (show n ≤ 16 by omega) (show (a ++ b).length ≤ 24 by rw [List.length_append]; omega) hcat h (c := c'))
      have HRA := Lib.hid (fun w' c' (h : Ints w' p (casts a)) => rank_call hn1.1 (show n ≤ 16 by omega) (show a.length ≤ 24 by omega) HLA.out h (c := c'))
      have HRB := Lib.hid (fun w' c' (h : Ints w' q (casts b)) => rank_call hn1.1 (show n ≤ 16 by omega) (show (b).length ≤ 24 by omega) HLB.out h (c := c'))
      have HMA := Lib.hid (fun x hx w' c' (h : Ints w' p (casts a)) => member_yes hn1.1 (show n ≤ 16 by omega) (show a.length ≤ 24 by omega) HLA.out (HMS.out x hx).1 h (c := c'))
      have HMB := Lib.hid (fun x hx w' c' (h : Ints w' q (casts b)) => member_yes hn1.1 (show n ≤ 16 by omega) (show (b).length ≤ 24 by omega) HLB.out (HMS.out x hx).2 h (c := c'))
      rw [hmc] at HC2
      clear hmsp hown hmc hcat HMS
      have hml : (meetR a b n).length ≤ 24 := by omega
      generalize meetR a b n = M at *
      generalize (redR a n).length = ra at *
      generalize (redR b n).length = rb at *
      generalize (redR (a ++ b) n).length = rc at *
      have hrki : (ra : Int) + rb = rc + M.length := by omega
      clear hlen hlen2
      go_wp2_with fail
      refine (HC1.out _ A5.out.i1 A5.out.i0 _ _).mono ?_
      intro e w6 hE
      obtain ⟨p6, c6, rfl, a6⟩ := A5.out.list hE
      have A6 := Lib.hid a6
      clear a6 hE A5 HC1
      go_wp2_with fail
      refine (HC2.out _ A6.out.i2 A6.out.i1 _ _).mono ?_
      intro e w7 hE
      obtain ⟨p7, c7, rfl, a7⟩ := A6.out.list hE
      have A7 := Lib.hid a7
      clear a7 hE A6 HC2
      go_wp2_with fail
      refine (HRA.out _ _ A7.out.i3).mono ?_
      rintro e w8 ⟨rfl, hb8⟩
      have A8 := Lib.hid (A7.out.call hb8)
      clear hb8 A7 HRA
      go_wp2_with fail
      refine (HRB.out _ _ A8.out.i2).mono ?_
      rintro e w9 ⟨rfl, hb9⟩
      have A9 := Lib.hid (A8.out.call hb9)
      clear hb9 A8 HRB
      go_wp2_with fail
      have B9 := Lib.hid (A9.out.call ((Below.refl _ w9).alloc (Nat.le_refl _) (Obj.cells #[Value.slice p a.length ca, Value.slice q (b).length cb] 25)))
      have K0 := cell2_new0 w9 (Value.slice p a.length ca) (Value.slice q (b).length cb) 25
      have K1 := cell2_new1 w9 (Value.slice p a.length ca) (Value.slice q (b).length cb) 25
      have hcc := lw_Concat a b (Value.slice p a.length ca) (Value.slice q (b).length cb) (bt + 1) w9.heap.size (by omega) (by omega) _ (B9.out.own (_, a) (by simp)) (B9.out.own (_, b) (by simp)) (by rw [World.size_alloc]; omega) K0 K1
      have HCC := Lib.hid hcc
      clear hcc K0 K1 A9
      generalize w9.alloc (Obj.cells #[Value.slice p a.length ca, Value.slice q (b).length cb] 25) = w10 at *
      refine HCC.out.mono ?_
      rintro e w11 ⟨v11, rfl, hg11⟩
      obtain ⟨p11, c11, rfl, hi11⟩ := hg11.own.ints
      rw [casts_len]
      have hrc := HRC.out w11 p11 c11 hi11
      rw [List.length_append] at hrc
      have HRCC := Lib.hid hrc
      have A11 := Lib.hid (B9.out.call hg11.bel)
      clear hg11 hi11 hrc HRC HCC B9
      go_wp2_with fail
      refine HRCC.out.mono ?_
      rintro e w12 ⟨rfl, hb12⟩
      have A12 := Lib.hid (A11.out.call hb12)
      clear hb12 A11 HRCC
      have HEq : Hid (∀ w', Ints w' p6 (casts M) → Ints w' p7 (casts M) → Calls Tryd.prog 22 #[.slice p6 M.length c6, .slice p7 M.length c7] w' (Gives (.bool true) w')) := fun w' h6 h7 => by
        have := bt_Equal (casts M) (casts M) p6 p7 c6 c7 w' h6 h7 (by rw [casts_len]; omega) (by rw [casts_len]; omega)
        rw [casts_len, decide_eq_true rfl] at this
        exact this
      go_wp2_with fail
      refine (HEq.out _ A12.out.i1 A12.out.i0).mono ?_
      rintro e w13 ⟨rfl, hb13⟩
      have A13 := Lib.hid (A12.out.call hb13)
      clear hb13 A12 HEq
      obtain ⟨LS, hLS⟩ : ∃ LS, [(Value.slice p7 M.length c7, M), (Value.slice p6 M.length c6, M), (Value.slice q (b).length cb, b), (Value.slice p a.length ca, a)] = LS := ⟨_, rfl⟩
      have HI1 : Hid (∀ m wr, At w bt L2 m LS wr → Ints wr p6 (casts M)) := fun m wr h => by subst hLS; exact h.i1
      have HI2 : Hid (∀ m wr, At w bt L2 m LS wr → Ints wr q (casts b)) := fun m wr h => by subst hLS; exact h.i2
      have HI3 : Hid (∀ m wr, At w bt L2 m LS wr → Ints wr p (casts a)) := fun m wr h => by subst hLS; exact h.i3
      have A14 : Hid (∃ m, At w bt L2 m LS w13) := by subst hLS; exact ⟨_, A13.out⟩
      clear A13 hLS hrk
      go_wp2_with fail
      clear hrki
      go_loopw [131] (fun vi wr => ∃ k : Nat, k ≤ M.length ∧ vi = .int .i64 k ∧ Hid (∃ m, At w bt L2 m LS wr)) (fun vi _ => M.length - (intOf vi).toNat)
      case atStart => exact ⟨0, by omega, rfl, A14⟩
      case round =>
        obtain ⟨j, hj, rfl, A15⟩ := hrel
        clear A14
        obtain ⟨mm, a15⟩ := A15.out
        have B15 := Lib.hid a15
        clear a15 A15
        by_cases hjm : j < M.length
        · obtain ⟨x, hxk⟩ : ∃ x, M[j]? = some x := ⟨_, List.getElem?_eq_getElem hjm⟩
          obtain ⟨b0, off, rfl, hb0, hcx⟩ := (HI1.out _ _ B15.out).at_ (casts_at hxk)
          have HX := Lib.hid (List.mem_of_getElem? hxk)
          clear hxk
          go_wp2_with fail
          refine (HMA.out x HX.out _ _ (HI3.out _ _ B15.out)).mono ?_
          rintro e w16 ⟨rfl, hb16⟩
          have B16 := Lib.hid (B15.out.call hb16)
          clear hb16 B15
          go_wp2_with fail
          refine (HMB.out x HX.out _ _ (HI2.out _ _ B16.out)).mono ?_
          rintro e w17 ⟨rfl, hb17⟩
          have B17 := Lib.hid (B16.out.call hb17)
          clear hb17 B16
          go_wp2_with fail
          go_roundw
          case rel => exact ⟨j + 1, by omega, by go_num, Lib.hid ⟨_, B17.out⟩⟩
          case measure => simp [intOf]; omega
        · have hrd := reduce_call hn1.1 (show n ≤ 16 by omega) hml HML.out (HI1.out _ _ B15.out) (c := c6)
          rw [HOWN.out] at hrd
          have HRR := Lib.hid hrd
          clear hrd
          go_wp2_with fail
          refine HRR.out.mono ?_
          intro e w18 hE
          obtain ⟨p18, c18, rfl, a18⟩ := B15.out.list hE
          have HIO := Lib.hid a18.i0
          have B18 : Hid (At w bt L2 mm LS w18) := ⟨a18.bel, a18.sto, fun q hq => a18.own q (List.mem_cons_of_mem _ hq)⟩
          clear hE a18 HRR B15
          have HEq : Hid (∀ w', Ints w' p18 (casts M) → Ints w' p6 (casts M) → Calls Tryd.prog 22 #[.slice p18 M.length c18, .slice p6 M.length c6] w' (Gives (.bool true) w')) := fun w' h6 h7 => by
            have := bt_Equal (casts M) (casts M) p18 p6 c18 c6 w' h6 h7 (by rw [casts_len]; omega) (by rw [casts_len]; omega)
            rw [casts_len, decide_eq_true rfl] at this
            exact this
          go_wp2_with fail
          refine (HEq.out _ HIO.out (HI1.out _ _ B18.out)).mono ?_
          rintro e w19 ⟨rfl, hb19⟩
          have B19 := Lib.hid (B18.out.call hb19)
          clear hb19 B18 HIO HEq
          go_wp2_with fail
          refine (bt_awake _ (B19.out.tab HT.out)).mono ?_
          rintro e w20 ⟨rfl, hb20⟩
          have B20 := Lib.hid (B19.out.call hb20)
          clear hb20 B19
          go_wp2_with fail
          go_ret
          exact ⟨rfl, B20.out.bel⟩
    · have hpw := pow_wrap (show a.length < 40 by omega)
      have hpx : IntKind.i64.wrap ((2 : Int) ^ a.length) = ((2 ^ a.length : Nat) : Int) := (IntWalk.i64_left _).trans hpw
      have hpl : (2 ^ a.length : Nat) ≤ 65536 := Nat.pow_le_pow_right (by omega) (show a.length ≤ 16 by omega)
      have hpl0 := Nat.two_pow_pos a.length
      go_wp2_with fail
      (try rw [hpw])
      (try rw [hpx])
      refine (less_anyI _ _ _ _ _ _ (by decide) (in_u32 hpl0 hpl) S5.out).mono ?_
      rintro e w6 ⟨_, rfl, ⟨z, rfl, y0, y1⟩, hS, hB⟩
      clear hpw hpx
      obtain ⟨k, rfl⟩ : ∃ k : Nat, z = k := ⟨z.toNat, by omega⟩
      have G6 := Lib.hid (G5.out.beside hB)
      have S6 := Lib.hid hS
      clear hS hB G5 S5
      have HTo := Lib.hid (lw_total a (by omega) (lt24 (by omega) HLA.out) k (by omega) p ca w6 (A3.out.draw S6.out G6.out.bes).i0)
      rw [prod_tot] at HTo
      have htn : tot a k < 2 ^ n := (tot_in a k).lt HLA.out
      generalize tot a k = x at *
      go_wp2_with fail
      refine HTo.out.mono ?_
      rintro e w7 ⟨rfl, hb7'⟩
      have G7 := Lib.hid (G6.out.beside (Beside.of hb7'))
      have S7 := Lib.hid (S6.out.below (bl_wider hb7' S6.out.1.2.2))
      clear hb7' G6 S6 HTo
      have HO := Lib.hid (G7.out.al (.cells #[.int .i64 (x : Int)] 3)).own
      have HC := Lib.hid (cell1_new w7 (x : Int) 3)
      have hB4 : w3.heap.size ≤ (w7.alloc (.cells #[.int .i64 (x : Int)] 3)).heap.size := by rw [World.size_alloc]; have := G7.out.bes.size; omega
      have hL4 : (casts b).length ≤ 1000000 := by rw [casts_len]; omega
      have HB4 := Lib.hid hB4
      have HL4 := Lib.hid hL4
      have hLw := A3.out.sto.1.2.2
      clear hB4 hL4
      go_wp2_with (at_builtin; refine wpList_app rfl (.tmp 50) (.tmp 58) rfl w3.heap.size _ (casts b) rfl HO.out HB4.out HL4.out w7.heap.size 1 (x : Int) rfl HC.out ?_; intro g4 cap4 w8 hm4 hg4 hat4 hlt4)
      have G8 := Lib.hid ((G7.out.al _).put hm4 hg4)
      have S8 := Lib.hid ((S7.out.below ((Below.refl L2 w7).alloc (Nat.le_trans hLw G7.out.bes.size) (.cells #[.int .i64 (x : Int)] 3))).put (G7.out.al _) hLw hg4)
      rw [casts_len] at G8 ⊢
      have HLB9 : Hid (∀ y ∈ b ++ [x], y < 2 ^ n) := fun y hy => by
        rcases List.mem_append.1 hy with hy | hy
        · exact HLB.out y hy
        · rw [List.mem_singleton.1 hy]; exact htn
      obtain ⟨b9, hb9⟩ : ∃ b9, b ++ [x] = b9 := ⟨_, rfl⟩
      have hl9 : b.length + 1 = b9.length := by rw [← hb9]; simp
      rw [hb9] at G8 HLB9
      rw [hl9] at G8 ⊢
      have hb99 : b9.length ≤ 8 := by omega
      obtain ⟨q, hq⟩ : ∃ q : Option Addr, some (⟨g4, 0, none⟩ : Addr) = q := ⟨_, rfl⟩
      rw [hq] at G8 ⊢
      obtain ⟨cb, hcb⟩ : ∃ cb : Nat, cap4 = cb := ⟨_, rfl⟩
      rw [hcb] at G8 ⊢
      clear hm4 hg4 hat4 hlt4 HO HC HB4 HL4 G7 S7 hb9 hl9 htn hLw
      have A5 := Lib.hid ((A3.out.draw S8.out G8.out.bes).cons (G8.out.own.low (by have := A3.out.sto.1.2; omega)))
      clear A3 G8 S8
      have hrk := meet_rank (by omega) HLA.out HLB9.out
      have hlen := rank_null HLA.out
      have hlen2 := rank_null HLB9.out
      have hmsp := meetR_spec HLA.out HLB9.out
      have HMS : Hid (∀ r ∈ meetR a b9 n, InSp a r ∧ InSp b9 r) := fun r hr => (hmsp.2 r).1 (.of_mem hr)
      have HML : Hid (∀ r ∈ meetR a b9 n, r < 2 ^ n) := fun r hr => ((hmsp.2 r).1 (.of_mem hr)).1.lt HLA.out
      have hown := redR_own hmsp.1 HML.out
      have hmc := meet_comm HLB9.out HLA.out
      have HC1 := Lib.hid (fun w' (h1 : Ints w' p (casts a)) (h2 : Ints w' q (casts b9)) c1 c2 => meet_call hn1.1 (show n ≤ 16 by omega) (show a.length ≤ 24 by omega) (show (b9).length ≤ 24 by omega) HLA.out HLB9.out h1 h2 (ca := c1) (cb := c2))
      have HC2 := Lib.hid (fun w' (h1 : Ints w' p (casts a)) (h2 : Ints w' q (casts b9)) c1 c2 => meet_call hn1.1 (show n ≤ 16 by omega) (show (b9).length ≤ 24 by omega) (show a.length ≤ 24 by omega) HLB9.out HLA.out h2 h1 (ca := c1) (cb := c2))
      have HOWN := Lib.hid hown
      have hcat : ∀ x ∈ a ++ b9, x < 2 ^ n := fun x hx => (List.mem_append.1 hx).elim (HLA.out x) (HLB9.out x)
      have HRC := Lib.hid (fun w' p' c' (h : Ints w' p' (casts (a ++ b9))) => rank_call hn1.1 (show n ≤ 16 by omega) (show (a ++ b9).length ≤ 24 by rw [List.length_append]; omega) hcat h (c := c'))
      have HRA := Lib.hid (fun w' c' (h : Ints w' p (casts a)) => rank_call hn1.1 (show n ≤ 16 by omega) (show a.length ≤ 24 by omega) HLA.out h (c := c'))
      have HRB := Lib.hid (fun w' c' (h : Ints w' q (casts b9)) => rank_call hn1.1 (show n ≤ 16 by omega) (show (b9).length ≤ 24 by omega) HLB9.out h (c := c'))
      have HMA := Lib.hid (fun x hx w' c' (h : Ints w' p (casts a)) => member_yes hn1.1 (show n ≤ 16 by omega) (show a.length ≤ 24 by omega) HLA.out (HMS.out x hx).1 h (c := c'))
      have HMB := Lib.hid (fun x hx w' c' (h : Ints w' q (casts b9)) => member_yes hn1.1 (show n ≤ 16 by omega) (show (b9).length ≤ 24 by omega) HLB9.out (HMS.out x hx).2 h (c := c'))
      rw [hmc] at HC2
      clear hmsp hown hmc hcat HMS
      have hml : (meetR a b9 n).length ≤ 24 := by omega
      generalize meetR a b9 n = M at *
      generalize (redR a n).length = ra at *
      generalize (redR b9 n).length = rb at *
      generalize (redR (a ++ b9) n).length = rc at *
      have hrki : (ra : Int) + rb = rc + M.length := by omega
      clear hlen hlen2
      go_wp2_with fail
      refine (HC1.out _ A5.out.i1 A5.out.i0 _ _).mono ?_
      intro e w6 hE
      obtain ⟨p6, c6, rfl, a6⟩ := A5.out.list hE
      have A6 := Lib.hid a6
      clear a6 hE A5 HC1
      go_wp2_with fail
      refine (HC2.out _ A6.out.i2 A6.out.i1 _ _).mono ?_
      intro e w7 hE
      obtain ⟨p7, c7, rfl, a7⟩ := A6.out.list hE
      have A7 := Lib.hid a7
      clear a7 hE A6 HC2
      go_wp2_with fail
      refine (HRA.out _ _ A7.out.i3).mono ?_
      rintro e w8 ⟨rfl, hb8⟩
      have A8 := Lib.hid (A7.out.call hb8)
      clear hb8 A7 HRA
      go_wp2_with fail
      refine (HRB.out _ _ A8.out.i2).mono ?_
      rintro e w9 ⟨rfl, hb9⟩
      have A9 := Lib.hid (A8.out.call hb9)
      clear hb9 A8 HRB
      go_wp2_with fail
      have B9 := Lib.hid (A9.out.call ((Below.refl _ w9).alloc (Nat.le_refl _) (Obj.cells #[Value.slice p a.length ca, Value.slice q (b9).length cb] 25)))
      have K0 := cell2_new0 w9 (Value.slice p a.length ca) (Value.slice q (b9).length cb) 25
      have K1 := cell2_new1 w9 (Value.slice p a.length ca) (Value.slice q (b9).length cb) 25
      have hcc := lw_Concat a b9 (Value.slice p a.length ca) (Value.slice q (b9).length cb) (bt + 1) w9.heap.size (by omega) (by omega) _ (B9.out.own (_, a) (by simp)) (B9.out.own (_, b9) (by simp)) (by rw [World.size_alloc]; omega) K0 K1
      have HCC := Lib.hid hcc
      clear hcc K0 K1 A9
      generalize w9.alloc (Obj.cells #[Value.slice p a.length ca, Value.slice q (b9).length cb] 25) = w10 at *
      refine HCC.out.mono ?_
      rintro e w11 ⟨v11, rfl, hg11⟩
      obtain ⟨p11, c11, rfl, hi11⟩ := hg11.own.ints
      rw [casts_len]
      have hrc := HRC.out w11 p11 c11 hi11
      rw [List.length_append] at hrc
      have HRCC := Lib.hid hrc
      have A11 := Lib.hid (B9.out.call hg11.bel)
      clear hg11 hi11 hrc HRC HCC B9
      go_wp2_with fail
      refine HRCC.out.mono ?_
      rintro e w12 ⟨rfl, hb12⟩
      have A12 := Lib.hid (A11.out.call hb12)
      clear hb12 A11 HRCC
      have HEq : Hid (∀ w', Ints w' p6 (casts M) → Ints w' p7 (casts M) → Calls Tryd.prog 22 #[.slice p6 M.length c6, .slice p7 M.length c7] w' (Gives (.bool true) w')) := fun w' h6 h7 => by
        have := bt_Equal (casts M) (casts M) p6 p7 c6 c7 w' h6 h7 (by rw [casts_len]; omega) (by rw [casts_len]; omega)
        rw [casts_len, decide_eq_true rfl] at this
        exact this
      go_wp2_with fail
      refine (HEq.out _ A12.out.i1 A12.out.i0).mono ?_
      rintro e w13 ⟨rfl, hb13⟩
      have A13 := Lib.hid (A12.out.call hb13)
      clear hb13 A12 HEq
      obtain ⟨LS, hLS⟩ : ∃ LS, [(Value.slice p7 M.length c7, M), (Value.slice p6 M.length c6, M), (Value.slice q (b9).length cb, b9), (Value.slice p a.length ca, a)] = LS := ⟨_, rfl⟩
      have HI1 : Hid (∀ m wr, At w bt L2 m LS wr → Ints wr p6 (casts M)) := fun m wr h => by subst hLS; exact h.i1
      have HI2 : Hid (∀ m wr, At w bt L2 m LS wr → Ints wr q (casts b9)) := fun m wr h => by subst hLS; exact h.i2
      have HI3 : Hid (∀ m wr, At w bt L2 m LS wr → Ints wr p (casts a)) := fun m wr h => by subst hLS; exact h.i3
      have A14 : Hid (∃ m, At w bt L2 m LS w13) := by subst hLS; exact ⟨_, A13.out⟩
      clear A13 hLS hrk
      go_wp2_with fail
      clear hrki
      go_loopw [131] (fun vi wr => ∃ k : Nat, k ≤ M.length ∧ vi = .int .i64 k ∧ Hid (∃ m, At w bt L2 m LS wr)) (fun vi _ => M.length - (intOf vi).toNat)
      case atStart => exact ⟨0, by omega, rfl, A14⟩
      case round =>
        obtain ⟨j, hj, rfl, A15⟩ := hrel
        clear A14
        obtain ⟨mm, a15⟩ := A15.out
        have B15 := Lib.hid a15
        clear a15 A15
        by_cases hjm : j < M.length
        · obtain ⟨x, hxk⟩ : ∃ x, M[j]? = some x := ⟨_, List.getElem?_eq_getElem hjm⟩
          obtain ⟨b0, off, rfl, hb0, hcx⟩ := (HI1.out _ _ B15.out).at_ (casts_at hxk)
          have HX := Lib.hid (List.mem_of_getElem? hxk)
          clear hxk
          go_wp2_with fail
          refine (HMA.out x HX.out _ _ (HI3.out _ _ B15.out)).mono ?_
          rintro e w16 ⟨rfl, hb16⟩
          have B16 := Lib.hid (B15.out.call hb16)
          clear hb16 B15
          go_wp2_with fail
          refine (HMB.out x HX.out _ _ (HI2.out _ _ B16.out)).mono ?_
          rintro e w17 ⟨rfl, hb17⟩
          have B17 := Lib.hid (B16.out.call hb17)
          clear hb17 B16
          go_wp2_with fail
          go_roundw
          case rel => exact ⟨j + 1, by omega, by go_num, Lib.hid ⟨_, B17.out⟩⟩
          case measure => simp [intOf]; omega
        · have hrd := reduce_call hn1.1 (show n ≤ 16 by omega) hml HML.out (HI1.out _ _ B15.out) (c := c6)
          rw [HOWN.out] at hrd
          have HRR := Lib.hid hrd
          clear hrd
          go_wp2_with fail
          refine HRR.out.mono ?_
          intro e w18 hE
          obtain ⟨p18, c18, rfl, a18⟩ := B15.out.list hE
          have HIO := Lib.hid a18.i0
          have B18 : Hid (At w bt L2 mm LS w18) := ⟨a18.bel, a18.sto, fun q hq => a18.own q (List.mem_cons_of_mem _ hq)⟩
          clear hE a18 HRR B15
          have HEq : Hid (∀ w', Ints w' p18 (casts M) → Ints w' p6 (casts M) → Calls Tryd.prog 22 #[.slice p18 M.length c18, .slice p6 M.length c6] w' (Gives (.bool true) w')) := fun w' h6 h7 => by
            have := bt_Equal (casts M) (casts M) p18 p6 c18 c6 w' h6 h7 (by rw [casts_len]; omega) (by rw [casts_len]; omega)
            rw [casts_len, decide_eq_true rfl] at this
            exact this
          go_wp2_with fail
          refine (HEq.out _ HIO.out (HI1.out _ _ B18.out)).mono ?_
          rintro e w19 ⟨rfl, hb19⟩
          have B19 := Lib.hid (B18.out.call hb19)
          clear hb19 B18 HIO HEq
          go_wp2_with fail
          refine (bt_awake _ (B19.out.tab HT.out)).mono ?_
          rintro e w20 ⟨rfl, hb20⟩
          have B20 := Lib.hid (B19.out.call hb20)
          clear hb20 B19
          go_wp2_with fail
          go_ret
          exact ⟨rfl, B20.out.bel⟩
end Go.Proofs.YtpnancidgobehaaDoor
