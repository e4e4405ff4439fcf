
/- The reference of bits: products, the identity, matrices turned. -/
import Derived.Test.YtpbcomdlboiddaaDoorGi
import Derived.Test.YtpbcomdlboiddaaDoorVp
set_option linter.all false
set_option maxRecDepth 100000
namespace Go.Proofs.YtpbcomdlboiddaaDoor
open Go.RowKit

set_option maxHeartbeats 2000000 in
theorem rf_One (n : Nat) (hn : n ≤ 16) (w : World) : Calls Tryd.prog 96 #[.int .i64 (n : Int)] w (Lists ((List.range n).map (2 ^ ·)) w) := by
  have HG0 : Hid (Grow w (.slice none 0 0) ((List.range 0).map (2 ^ ·)) w) := ⟨Below.refl _ _, Mine.nil _ _⟩
  have HE : Hid (∃ R, R = (List.range n).map (2 ^ ·)) := ⟨_, rfl⟩
  obtain ⟨R, hR⟩ := HE.out
  rw [← hR]
  have HR := Lib.hid hR
  clear hR HE
  go_enter Tryd.func96, Tryd.ntmps96
  go_wp2_with fail
  go_loopw [3, 4] (fun vo vi wr => ∃ (k : Nat) (v : Value), k ≤ n ∧ vo = v ∧ vi = .int .i64 k ∧ Hid (Grow w v ((List.range k).map (2 ^ ·)) wr)) (fun _ vi _ => n - (intOf vi).toNat)
  case atStart => exact ⟨0, _, by omega, rfl, rfl, HG0.out⟩
  case round =>
    obtain ⟨k, v, hk, rfl, rfl, HG⟩ := hrel
    clear HG0
    by_cases hlk : k < n
    · have hN : (List.range k).map (2 ^ ·) ++ [2 ^ k] = (List.range (k + 1)).map (2 ^ ·) := by rw [List.range_succ, List.map_append]; rfl
      have HN := Lib.hid hN
      have hOl : ((List.range k).map (2 ^ ·)).length = k := by simp
      have hpw := pow_wrap (show k < 40 by omega)
      generalize (List.range k).map (2 ^ ·) = O at *
      generalize 2 ^ k = y at *
      clear hN
      have HO5 := Lib.hid (HG.out.own.al (.cells #[.int .i64 (y : Int)] 3))
      have HC1 := Lib.hid (cell1_new wr (y : Int) 3)
      have hBB : w.heap.size ≤ (wr.alloc (.cells #[.int .i64 (y : Int)] 3)).heap.size := by rw [World.size_alloc]; have := HG.out.bel.size; omega
      have hLL : (casts O).length ≤ 1000000 := by rw [casts_len, hOl]; omega
      have HBB := Lib.hid hBB
      have HLL := Lib.hid hLL
      have HG5 := Lib.hid HG.out
      clear hBB hLL HG hOl
      go_wp2_with (at_builtin; refine wpList_app rfl (.tmp 10) (.tmp 13) rfl w.heap.size _ (casts O) rfl HO5.out HBB.out HLL.out wr.heap.size 1 (y : Int) rfl HC1.out ?_; intro g4 cap4 w4 hm4 hg4 hat4 hlt4)
      have HG6 := Lib.hid ((HG5.out.al _).put hm4 hg4)
      rw [HN.out] at HG6
      clear hm4 hg4 hat4 HO5 HBB HLL HG5 HC1 HN
      go_wp2_with fail
      go_roundw
      case rel => exact ⟨k + 1, _, by omega, rfl, by go_num, HG6.out⟩
      case measure => simp [intOf]; omega
    · obtain rfl : k = n := by omega
      rw [← HR.out] at HG
      clear HR
      go_wp2_with fail
      go_ret
      exact ⟨_, rfl, HG.out.bel, HG.out.own⟩
set_option maxHeartbeats 4000000 in
theorem rf_Product (l : List Nat) (hl : l.length ≤ 24) (hlx : ∀ x ∈ l, x < R24) (b : List Nat) (hbl : b.length ≤ 24) (hbx : ∀ x ∈ b, x < R24) (p q : Option Addr) (ca cb : Nat) (w : World) (h : Ints w p (casts l)) (hb : Ints w q (casts b)) :
    Calls Tryd.prog 94 #[.slice p l.length ca, .slice q b.length cb] w (Lists (l.map (prodM b)) w) := by
  have HI := Lib.hid h
  have HJ := Lib.hid hb
  clear h hb
  have HG0 : Hid (Grow w (.slice none 0 0) ((l.take 0).map (prodM b)) w) := ⟨Below.refl _ _, Mine.nil _ _⟩
  go_enter Tryd.func94, Tryd.ntmps94
  go_wp2_with fail
  go_loopw [5, 12] (fun vo vi wr => ∃ (k : Nat) (v : Value), k ≤ l.length ∧ vo = v ∧ vi = .int .i64 k ∧ Hid (Grow w v ((l.take k).map (prodM b)) wr)) (fun _ vi _ => l.length - (intOf vi).toNat)
  case atStart => exact ⟨0, _, by omega, rfl, rfl, HG0.out⟩
  case round =>
    obtain ⟨k, v, hk, rfl, rfl, HG⟩ := hrel
    clear HG0
    by_cases hlk : k < l.length
    · obtain ⟨r, hrk⟩ : ∃ r, l[k]? = some r := ⟨_, List.getElem?_eq_getElem hlk⟩
      have hr24 := hlx r (List.mem_of_getElem? hrk)
      obtain ⟨b1, o1, rfl, hbb1, hc1⟩ := (HI.out.below HG.out.bel).at_ (casts_at hrk)
      have hN : (l.take k).map (prodM b) ++ [prodM b r] = (l.take (k + 1)).map (prodM b) := by
        obtain ⟨hk1, rfl⟩ := List.getElem?_eq_some_iff.1 hrk
        rw [List.take_succ_eq_append_getElem hk1, List.map_append]; rfl
      have HN0 := Lib.hid hN
      have hOl : ((l.take k).map (prodM b)).length ≤ 24 := by rw [List.length_map, List.length_take]; omega
      have hP : prodM b r = xorL (chosenM (b.drop 0) 0 r) 0 := rfl
      obtain ⟨Y, hY⟩ : ∃ Y, Y = prodM b r := ⟨_, rfl⟩
      have HP0 := Lib.hid (hY.trans hP)
      rw [← hY] at HN0
      have HO := Lib.hid HG.out
      generalize (l.take k).map (prodM b) = O at *
      clear hN hP hY hrk HG
      go_wp2_with fail
      go_loopw [8, 18] (fun vx vj wx => ∃ (j x : Nat), j ≤ b.length ∧ vx = .int .i64 x ∧ vj = .int .i64 j ∧ x < R24 ∧ Hid (Grow w u5 O wx) ∧ Hid (Y = xorL (chosenM (b.drop j) j r) x)) (fun _ vj _ => b.length - (intOf vj).toNat)
      case atStart => exact ⟨0, 0, by omega, rfl, rfl, by decide, HO.out, HP0.out⟩
      case round =>
        obtain ⟨j, x, hj, rfl, rfl, hx, HG, HP⟩ := hrel
        clear HO HP0
        by_cases hlj : j < b.length
        · obtain ⟨y, hyj⟩ : ∃ y, b[j]? = some y := ⟨_, List.getElem?_eq_getElem hlj⟩
          have hy24 := hbx y (List.mem_of_getElem? hyj)
          obtain ⟨b2, o2, rfl, hbb2, hc2⟩ := (HJ.out.below HG.out.bel).at_ (casts_at hyj)
          have hst := HP.out
          rw [chosen_drop hyj] at hst
          have hv := bt_has_val r j (Nat.lt_of_lt_of_le hr24 (by decide))
          have hxo := i64_xor_nat x y (Nat.lt_of_lt_of_le hx (by decide)) (Nat.lt_of_lt_of_le hy24 (by decide))
          have hx2 := xor24 hx hy24
          cases hb : r.testBit j
          · rw [hb, if_neg (by decide)] at hst
            rw [hb] at hv
            have HD := Lib.hid hst
            clear hst hb hyj HP hxo hx2
            go_wp2_with fail
            go_roundw
            case rel => exact ⟨j + 1, x, by omega, rfl, by go_num, hx, HG.out, HD.out⟩
            case measure => simp [intOf]; omega
          · rw [hb, if_pos rfl] at hst
            rw [hb] at hv
            have hst2 : Y = xorL (chosenM (b.drop (j + 1)) (j + 1) r) (x ^^^ y) := hst
            have HD := Lib.hid hst2
            clear hst hst2 hb hyj HP
            generalize x ^^^ y = x2 at *
            go_wp2_with fail
            go_roundw
            case rel => exact ⟨j + 1, x2, by omega, rfl, by go_num, hx2, HG.out, HD.out⟩
            case measure => simp [intOf]; omega
        · have hxe : Y = x := by rw [HP.out, List.drop_eq_nil_of_le (by omega)]; rfl
          subst hxe
          have HN := Lib.hid HN0.out
          clear HP HN0
          have HO5 := Lib.hid (HG.out.own.al (.cells #[.int .i64 (Y : Int)] 3))
          have HC1 := Lib.hid (cell1_new wr (Y : Int) 3)
          have hBB : w.heap.size ≤ (wr.alloc (.cells #[.int .i64 (Y : Int)] 3)).heap.size := by rw [World.size_alloc]; have := HG.out.bel.size; omega
          have hLL : (casts O).length ≤ 1000000 := by rw [casts_len]; omega
          have HBB := Lib.hid hBB
          have HLL := Lib.hid hLL
          have HG5 := Lib.hid HG.out
          clear hBB hLL HG
          go_wp2_with (at_builtin; refine wpList_app rfl (.tmp 33) (.tmp 35) rfl w.heap.size _ (casts O) rfl HO5.out HBB.out HLL.out wr.heap.size 1 (Y : Int) rfl HC1.out ?_; intro g4 cap4 w4 hm4 hg4 hat4 hlt4)
          have HG6 := Lib.hid ((HG5.out.al _).put hm4 hg4)
          rw [HN.out] at HG6
          clear hm4 hg4 hat4 HO5 HBB HLL HG5 HC1 HN
          go_wp2_with fail
          go_roundw
          case rel => exact ⟨k + 1, _, by omega, rfl, by go_num, HG6.out⟩
          case measure => simp [intOf]; omega
    · have hall : l.take k = l := List.take_of_length_le (by omega)
      rw [hall] at HG
      clear hall
      go_wp2_with fail
      go_ret
      exact ⟨_, rfl, HG.out.bel, HG.out.own⟩
set_option maxHeartbeats 1000000 in
theorem rf_Identity (n : Int) (w : World) : Calls Tryd.prog 46 #[.int .i64 n] w (ListE (IdentityM n).1 (IdentityM n).2 w) := by
  unfold IdentityM
  by_cases h1 : n < 1
  · rw [if_pos (.inl h1)]
    go_enter Tryd.func46, Tryd.ntmps46
    go_wp2_with fail
    go_ret2
    exact ListE.error _ (Below.refl _ _)
  · by_cases h2 : 16 < n
    · rw [if_pos (.inr h2)]
      go_enter Tryd.func46, Tryd.ntmps46
      go_wp2_with fail
      go_ret2
      exact ListE.error _ (Below.refl _ _)
    · rw [if_neg (by omega)]
      obtain ⟨m, rfl⟩ : ∃ m : Nat, n = m := ⟨n.toNat, by omega⟩
      rw [Int.toNat_natCast]
      have HO := Lib.hid (fun w' => rf_One m (by omega) w')
      generalize (List.range m).map (2 ^ ·) = O at *
      go_enter Tryd.func46, Tryd.ntmps46
      go_wp2_with fail
      refine (HO.out _).mono ?_
      rintro e w1 ⟨v, rfl, hg⟩
      go_wp2_with fail
      go_ret2
      exact ⟨v, rfl, hg.bel, hg.own⟩
set_option maxHeartbeats 1000000 in
theorem rf_Transpose (xs : List Int) (n : Int) (p : Option Addr) (cap : Nat) (w : World) (h : Ints w p xs) (hm : xs.length ≤ 9223372036854775807) :
    Calls Tryd.prog 44 #[.slice p xs.length cap, .int .i64 n] w (ListE (TransposeM xs n).1 (TransposeM xs n).2 w) := by
  have H1 : Hid (Calls Tryd.prog 28 #[.slice p xs.length cap, .int .i64 n] w (Gives (.int .i64 (checkM xs n)) w)) := rf_Check xs n p cap w h hm
  unfold TransposeM
  by_cases hc : checkM xs n = 0
  · have R := right_of hc
    rw [if_pos hc]
    rw [hc] at H1
    have hll := R.len
    rw [nats_len] at hll
    have h16 := R.h16
    have HT : Hid (∀ w', Below w.heap.size w w' → Calls Tryd.prog 85 #[.slice p xs.length cap, .int .i64 n] w' (Lists (transposedM (nats xs) n.toNat) w')) := fun w' hb => by
      have := rf_Turned (nats xs) (by have := R.len; omega) R.r24 n.toNat (by omega) p cap w' (by have := h.below hb; rwa [R.hx] at this)
      rwa [nats_len, ← R.hn] at this
    generalize transposedM (nats xs) n.toNat = O at *
    clear hc R h hm h16
    by_cases h0 : xs.length < 1
    · rw [if_neg (by omega)]
      have h0' : ((xs.length : Int) == 0) = true := by have h9 : xs.length = 0 := (by omega); rw [h9]; rfl
      go_enter Tryd.func44, Tryd.ntmps44
      go_wp2_with fail
      refine H1.out.mono ?_
      rintro e w1 ⟨rfl, hb1⟩
      go_wp2_with fail
      go_ret2
      exact ListE.error _ hb1
    · have h0' : ((xs.length : Int) == 0) = false := beq_eq_false_iff_ne.2 (by omega)
      by_cases h1 : 16 < xs.length
      · rw [if_neg (by omega)]
        have h1' : (16 : Int) < xs.length := by omega
        go_enter Tryd.func44, Tryd.ntmps44
        go_wp2_with fail
        refine H1.out.mono ?_
        rintro e w1 ⟨rfl, hb1⟩
        go_wp2_with fail
        go_ret2
        exact ListE.error _ hb1
      · rw [if_pos (by omega)]
        have h1' : ¬ (16 : Int) < xs.length := by omega
        go_enter Tryd.func44, Tryd.ntmps44
        go_wp2_with fail
        refine H1.out.mono ?_
        rintro e w1 ⟨rfl, hb1⟩
        go_wp2_with fail
        refine (HT.out _ hb1).mono ?_
        rintro e w2 ⟨v, rfl, hg⟩
        go_wp2_with fail
        go_ret2
        exact ⟨v, rfl, below_via hg.bel hb1, hg.own.low hb1.size⟩
  · rw [if_neg hc]
    have hne : (checkM xs n != 0) = true := bne_iff_ne.2 hc
    generalize checkM xs n = q at *
    clear hc h hm
    go_enter Tryd.func44, Tryd.ntmps44
    go_wp2_with fail
    refine H1.out.mono ?_
    rintro e w1 ⟨rfl, hb1⟩
    go_wp2_with fail
    go_ret2
    exact ListE.error _ hb1
end Go.Proofs.YtpbcomdlboiddaaDoor
