
/- Rows of bits: products, inverses, what two spans have in common. -/
import Derived.Test.YtpnancidgobehaaDoorZk
set_option linter.all false
set_option maxRecDepth 100000
namespace Go.Proofs.YtpnancidgobehaaDoor
open Go.RowKit

theorem chosenM_mem : ∀ (l : List Nat) (i which : Nat) (x : Nat), x ∈ chosenM l i which → x ∈ l
  | [], _, _, x, h => by simp [chosenM] at h
  | r :: l, i, which, x, h => by
    unfold chosenM at h
    split at h
    · rcases List.mem_cons.1 h with rfl | h
      · simp
      · exact List.mem_cons_of_mem _ (chosenM_mem l (i + 1) which x h)
    · exact List.mem_cons_of_mem _ (chosenM_mem l (i + 1) which x h)
theorem chosenM_len : ∀ (l : List Nat) (i which : Nat), (chosenM l i which).length ≤ l.length
  | [], _, _ => by simp [chosenM]
  | r :: l, i, which => by
    unfold chosenM
    have := chosenM_len l (i + 1) which
    split <;> simp <;> omega
theorem xorL_lt : ∀ (l : List Nat) (s n : Nat), (∀ x ∈ l, x < 2 ^ n) → s < 2 ^ n → xorL l s < 2 ^ n
  | [], s, n, _, hs => hs
  | x :: l, s, n, h, hs => xorL_lt l (s ^^^ x) n (fun y hy => h y (List.mem_cons_of_mem _ hy)) (Nat.xor_lt_two_pow hs (h x (by simp)))
def prodM (b : List Nat) (r : Nat) : Nat := xorL (chosenM b 0 r) 0
def MulM (xs : List Int) (m : Int) (ys : List Int) (n : Int) : List Nat × Int :=
  if checkM xs m = 0 then (if checkM ys n = 0 then (if (ys.length : Int) = m then ((nats xs).map (prodM (nats ys)), 0) else ([], 7)) else ([], checkM ys n)) else ([], checkM xs m)
set_option maxHeartbeats 4000000 in
theorem bt_Mul (xs : List Int) (m : Int) (ys : List Int) (n : Int) (p q : Option Addr) (ca cb : Nat) (w : World) (h : Ints w p xs) (hy : Ints w q ys) (hm : xs.length ≤ 9223372036854775807) (hmy : ys.length ≤ 9223372036854775807) :
    Calls Tryd.prog 31 #[.slice p xs.length ca, .int .i64 m, .slice q ys.length cb, .int .i64 n] w (ListE (MulM xs m ys n).1 (MulM xs m ys n).2 w) := by
  have H1 : Hid (Calls Tryd.prog 44 #[.slice p xs.length ca, .int .i64 m] w (Gives (.int .i64 (checkM xs m)) w)) := bt_Check xs m p ca w h hm
  have H2 : Hid (∀ w', Below w.heap.size w w' → Calls Tryd.prog 44 #[.slice q ys.length cb, .int .i64 n] w' (Gives (.int .i64 (checkM ys n)) w')) := fun w' hb => bt_Check ys n q cb w' (hy.below hb) hmy
  unfold MulM
  by_cases hc : checkM xs m = 0
  · have R := right_of hc
    rw [if_pos hc]
    rw [hc] at H1
    by_cases hd : checkM ys n = 0
    · have S := right_of hd
      rw [if_pos hd]
      rw [hd] at H2
      by_cases hl : (ys.length : Int) = m
      · rw [if_pos hl]
        have HX : Hid (∀ w', Below w.heap.size w w' → Ints w' p (casts (nats xs))) := fun w' hb => by have := h.below hb; rwa [R.hx] at this
        have HCH : Hid (∀ (r : Nat) w', Below w.heap.size w w' → r < R24 → Calls Tryd.prog 63 #[.slice q ys.length cb, .int .i64 (r : Int)] w' (Lists (chosenM (nats ys) 0 r) w')) := fun r w' hb hr => by
          have := bt_chosen (nats ys) (by have := S.len; omega) r (by unfold R24 at hr; omega) q cb w' (by have := hy.below hb; rwa [S.hx] at this)
          rwa [nats_len] at this
        have HAD : Hid (∀ (r : Nat) w' v, Mine w' w.heap.size v (casts (chosenM (nats ys) 0 r)) → Calls Tryd.prog 62 #[v] w' (Gives (.int .i64 ((prodM (nats ys) r : Nat) : Int)) w')) := fun r w' v hm' => by
          obtain ⟨p', c', rfl, hi⟩ := hm'.ints
          rw [casts_len]
          exact bt_add _ p' c' w' hi (fun x hx => by have := S.r24 x (chosenM_mem _ _ _ _ hx); unfold R24 at this; unfold O40; omega) (by have := chosenM_len (nats ys) 0 r; have := S.len; omega)
        have hxl : (nats xs).length = xs.length := nats_len xs
        have hx24 : xs.length ≤ 24 := by have := R.len; omega
        have HR24 := Lib.hid R.r24
        have hmm : (m != m) = false := by simp
        subst hl
        obtain ⟨RR, hR⟩ : ∃ RR, (nats xs).map (prodM (nats ys)) = RR := ⟨_, rfl⟩
        unfold ListE
        rw [hR]
        have HR : Hid (RR = [] ++ ((nats xs).drop 0).map (prodM (nats ys))) := hR.symm
        generalize nats xs = l at *
        generalize nats ys = b at *
        clear hc hd R S h hy hm hmy hR
        go_enter Tryd.func31, Tryd.ntmps31
        go_wp2_with fail
        refine H1.out.mono ?_
        rintro e w1 ⟨rfl, hb1⟩
        go_wp2_with fail
        refine (H2.out _ hb1).mono ?_
        rintro e w2 ⟨rfl, hb2⟩
        have hb12 := below_via hb2 hb1
        have HG0 : Hid (Grow w (.slice none 0 0) [] w2) := ⟨hb12, Mine.nil _ _⟩
        clear hb1 hb2 hb12
        go_wp2_with fail
        go_loopw [12, 33] (fun v i wr => ∃ (k : Nat) (out : List Nat), k ≤ xs.length ∧ out.length = k ∧ i = .int .i64 k ∧ Hid (Grow w v out wr) ∧ Hid (RR = out ++ (l.drop k).map (prodM b))) (fun _ i _ => xs.length - (intOf i).toNat)
        case atStart => exact ⟨0, [], by omega, rfl, rfl, HG0, HR⟩
        case round =>
          obtain ⟨k, out, hk, hol, rfl, HG, HK⟩ := hrel
          by_cases hlt : k < xs.length
          · obtain ⟨x, hxk⟩ : ∃ x, l[k]? = some x := ⟨_, List.getElem?_eq_getElem (by omega)⟩
            obtain ⟨bb, off, rfl, hbb, hcx⟩ := (HX.out _ HG.out.bel).at_ (casts_at hxk)
            have hxr := HR24.out x (List.mem_of_getElem? hxk)
            have hd : RR = (out ++ [prodM b x]) ++ (l.drop (k + 1)).map (prodM b) := by
              obtain ⟨hkl, hxe⟩ := List.getElem?_eq_some_iff.1 hxk
              rw [HK.out, List.drop_eq_getElem_cons hkl, hxe]
              simp
            have HD := Lib.hid hd
            clear hxk HK hd
            go_wp2_with fail
            refine (HCH.out x _ HG.out.bel hxr).mono ?_
            rintro e w3 ⟨v3, rfl, hg3⟩
            have HG3 := Lib.hid (HG.out.call hg3.bel)
            have HM3 := Lib.hid (hg3.own.low HG.out.bel.size)
            clear hg3 HG hcx
            go_wp2_with fail
            refine (HAD.out x _ v3 HM3.out).mono ?_
            rintro e w4 ⟨rfl, hb4⟩
            have HG4 := Lib.hid (HG3.out.call hb4)
            have hsz := HG4.out.bel.size
            clear HG3 HM3 hb4
            generalize prodM b x = y at *
            have HO := Lib.hid ((HG4.out.own).al (.cells #[.int .i64 (y : Int)] 3))
            have HC1 := Lib.hid (cell1_new w4 (y : Int) 3)
            have hB : w.heap.size ≤ (w4.alloc (.cells #[.int .i64 (y : Int)] 3)).heap.size := by rw [World.size_alloc]; omega
            have hL : (casts out).length ≤ 1000000 := by rw [casts_len]; omega
            have HB := Lib.hid hB
            have HL := Lib.hid hL
            clear hB hL
            go_wp2_with (at_builtin; refine wpList_app rfl (.tmp 37) (.tmp 42) rfl (w.heap.size) _ (casts out) rfl HO.out HB.out HL.out w4.heap.size 1 (y : Int) rfl HC1.out ?_; intro g4 cap4 w5 hm4 hg4 hat4 hlt4)
            have HG5 := Lib.hid ((HG4.out.al _).put hm4 hg4)
            clear hm4 hg4 hat4 HG4 HO HC1 HB HL
            go_wp2_with fail
            go_roundw
            case rel => exact ⟨k + 1, out ++ [y], by omega, by rw [List.length_append, hol]; rfl, by go_num, HG5, HD⟩
            case measure => simp [intOf]; omega
          · have hRo : RR = out := by
              rw [HK.out, List.drop_eq_nil_of_le (by omega)]
              simp
            subst hRo
            clear HK
            go_wp2_with fail
            go_ret2
            exact ⟨_, rfl, HG.out⟩
      · rw [if_neg hl]
        have hne : ((ys.length : Int) != m) = true := bne_iff_ne.2 hl
        clear hc hd R S h hy hm hl
        go_enter Tryd.func31, Tryd.ntmps31
        go_wp2_with fail
        refine H1.out.mono ?_
        rintro e w1 ⟨rfl, hb1⟩
        go_wp2_with fail
        refine (H2.out _ hb1).mono ?_
        rintro e w2 ⟨rfl, hb2⟩
        go_wp2_with fail
        go_ret2
        exact ListE.error _ (below_via hb2 hb1)
    · rw [if_neg hd]
      have hne : (checkM ys n != 0) = true := bne_iff_ne.2 hd
      generalize checkM ys n = q2 at *
      clear hc hd R h hy hm
      go_enter Tryd.func31, Tryd.ntmps31
      go_wp2_with fail
      refine H1.out.mono ?_
      rintro e w1 ⟨rfl, hb1⟩
      go_wp2_with fail
      refine (H2.out _ hb1).mono ?_
      rintro e w2 ⟨rfl, hb2⟩
      go_wp2_with fail
      go_ret2
      exact ListE.error _ (below_via hb2 hb1)
  · rw [if_neg hc]
    have hne : (checkM xs m != 0) = true := bne_iff_ne.2 hc
    generalize checkM xs m = q1 at *
    clear hc h hy hm H2
    go_enter Tryd.func31, Tryd.ntmps31
    go_wp2_with fail
    refine H1.out.mono ?_
    rintro e w1 ⟨rfl, hb1⟩
    go_wp2_with fail
    go_ret2
    exact ListE.error _ hb1
end Go.Proofs.YtpnancidgobehaaDoor
