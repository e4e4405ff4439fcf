
/- The reference of bits: whether two spans are the same, and what they have in common. -/
import Derived.Test.YtpbcomdlboiddaaDoorGh
set_option linter.all false
set_option maxRecDepth 100000
namespace Go.Proofs.YtpbcomdlboiddaaDoor
open Go.RowKit

section
variable (xs ys : List Int) (n : Int) (p q : Option Addr) (ca cb : Nat) (w : World) (h : Ints w p xs) (hy : Ints w q ys) (hp : p = none → ca = 0) (hq : q = none → cb = 0) (hm : xs.length ≤ 9223372036854775807) (hmy : ys.length ≤ 9223372036854775807)
include h hy hm hmy
theorem rf_both : Calls Tryd.prog 83 #[.slice p xs.length ca, .slice q ys.length cb, .int .i64 n] w (Gives (.int .i64 (checkedM xs ys n)) w) := by
  have H1 : Hid (Calls Tryd.prog 28 #[.slice p xs.length ca, .int .i64 n] w (Gives (.int .i64 (checkM xs n)) w)) := rf_Check xs n p ca w h hm
  have H2 : Hid (∀ w', Below w.heap.size w w' → Calls Tryd.prog 28 #[.slice q ys.length cb, .int .i64 n] w' (Gives (.int .i64 (checkM ys n)) w')) := fun w' h => rf_Check ys n q cb w' (hy.below h) hmy
  clear h hy hm hmy
  unfold checkedM
  by_cases h : checkM xs n = 0
  · rw [if_pos h]
    rw [h] at H1
    clear h
    go_enter Tryd.func83, Tryd.ntmps83
    go_wp2_with fail
    refine H1.out.mono ?_
    rintro e w1 ⟨rfl, hb1⟩
    go_wp2_with fail
    refine (H2.out _ hb1).mono ?_
    rintro e w2 ⟨rfl, hb2⟩
    go_wp2_with fail
    go_ret
    exact ⟨rfl, below_via hb2 hb1⟩
  · rw [if_neg h]
    have hne : (checkM xs n != 0) = true := bne_iff_ne.2 h
    generalize checkM xs n = e at *
    clear h H2
    go_enter Tryd.func83, Tryd.ntmps83
    go_wp2_with fail
    refine H1.out.mono ?_
    rintro e w1 ⟨rfl, hb1⟩
    go_wp2_with fail
    go_ret
    exact ⟨rfl, hb1⟩
include hp hq
set_option maxHeartbeats 4000000 in
theorem rf_Same : Calls Tryd.prog 31 #[.slice p xs.length ca, .slice q ys.length cb, .int .i64 n] w (Gives (.tuple #[.bool (SameM xs ys n).1, .int .i64 (SameM xs ys n).2]) w) := by
  have H1 : Hid (Calls Tryd.prog 83 #[.slice p xs.length ca, .slice q ys.length cb, .int .i64 n] w (Gives (.int .i64 (checkedM xs ys n)) w)) := rf_both xs ys n p q ca cb w h hy hm hmy
  unfold SameM
  by_cases hc : checkedM xs ys n = 0
  · obtain ⟨hx0, hy0⟩ := checkedM_ok hc
    have R := right_of hx0
    have R2 := right_of hy0
    rw [if_pos hc]
    rw [hc] at H1
    have HA := Lib.hid (ref_red xs n p ca w h hp R)
    have HB := Lib.hid (ref_red ys n q cb w hy hq R2)
    have h16 := R.h16
    have hl1 := R.len
    have hl2 := R2.len
    have hs := same_same (n := n.toNat) (by omega) R.lt R2.lt hl1 hl2
    have hS1 : (spanned (nats xs)).at_.length = 24 := (spanned_ok R.r24 (by omega)).1.1
    have hS2 : (spanned (nats ys)).at_.length = 24 := (spanned_ok R2.r24 (by omega)).1.1
    have hz : sameL (byLeadM (spanned (nats xs)).at_) (byLeadM (spanned (nats ys)).at_) = decide (reducedM (spanned (nats xs)).at_ = reducedM (spanned (nats ys)).at_) := by
      rw [Bool.eq_iff_iff, decide_eq_true_eq, sameL_iff (by simp [byLeadM, hS1, hS2]), hs, R.maths.1, R2.maths.1]
    have hA24 : (reducedM (spanned (nats xs)).at_).length ≤ 24 := reducedM_len (spanned_ok R.r24 (by omega)).1
    rw [hz]
    generalize reducedM (spanned (nats xs)).at_ = A at *
    generalize reducedM (spanned (nats ys)).at_ = B at *
    clear hz hs hS1 hS2 hl1 hl2 h16 R R2 hx0 hy0 hc h hy hp hq hm hmy
    by_cases hAB : A.length = B.length
    · obtain ⟨Z, hZ⟩ : ∃ Z, Z = decide (A = B) := ⟨_, rfl⟩
      have hz0 : Z = decide (A.drop 0 = B.drop 0) := hZ
      rw [← hZ]
      have HZ := Lib.hid hz0
      have HAB := Lib.hid hAB
      have hab : ((A.length : Int) != (B.length : Int)) = false := by simp; omega
      clear hZ hz0 hAB
      go_enter Tryd.func31, Tryd.ntmps31
      go_wp2_with fail
      refine H1.out.mono ?_
      rintro e w1 ⟨rfl, hb1⟩
      go_wp2_with fail
      refine (HA.out _ hb1).mono ?_
      rintro e w2 ⟨v2, rfl, h2⟩
      obtain ⟨p2, c2, hv2, hi2⟩ := h2.own.ints
      rw [casts_len] at hv2
      have hb2 := below_via h2.bel hb1
      have HI2 := Lib.hid hi2
      subst hv2
      clear h2 hi2 hb1
      go_wp2_with fail
      refine (HB.out _ hb2).mono ?_
      rintro e w3 ⟨v3, rfl, h3⟩
      obtain ⟨p3, c3, hv3, hi3⟩ := h3.own.ints
      rw [casts_len] at hv3
      have hb3 := below_via h3.bel hb2
      have HI3 := Lib.hid hi3
      have HI4 := Lib.hid (HI2.out.below h3.bel)
      subst hv3
      clear h3 hi3 hb2 HI2
      go_wp2_with fail
      go_loopw [32] (fun i wr => ∃ k : Nat, k ≤ A.length ∧ i = .int .i64 k ∧ Hid (Below w3.heap.size w3 wr) ∧ Hid (Z = decide (A.drop k = B.drop k))) (fun i _ => A.length - (intOf i).toNat)
      case atStart => exact ⟨0, by omega, rfl, Below.refl _ _, HZ.out⟩
      case round =>
        obtain ⟨k, hk, rfl, HBk, HK⟩ := hrel
        clear HZ
        have HB9 := Lib.hid (below_via HBk.out hb3)
        by_cases hlk : k < A.length
        · obtain ⟨x, hxk⟩ : ∃ x, A[k]? = some x := ⟨_, List.getElem?_eq_getElem hlk⟩
          obtain ⟨y, hyk⟩ : ∃ y, B[k]? = some y := ⟨_, List.getElem?_eq_getElem (by rw [← HAB.out]; exact hlk)⟩
          obtain ⟨b1, o1, rfl, hbb1, hc1⟩ := (HI4.out.below HBk.out).at_ (casts_at hxk)
          obtain ⟨b2, o2, rfl, hbb2, hc2⟩ := (HI3.out.below HBk.out).at_ (casts_at hyk)
          have hkB : k < B.length := (List.getElem?_eq_some_iff.1 hyk).1
          have hd : Z = decide (x = y ∧ A.drop (k + 1) = B.drop (k + 1)) := by
            rw [HK.out]
            obtain ⟨hx1, rfl⟩ := List.getElem?_eq_some_iff.1 hxk
            obtain ⟨hy1, rfl⟩ := List.getElem?_eq_some_iff.1 hyk
            rw [decide_eq_decide, List.drop_eq_getElem_cons hx1, List.drop_eq_getElem_cons hy1, List.cons.injEq]
          by_cases hxy : x = y
          · have hne : ((x : Int) != (y : Int)) = false := by simp; omega
            have hd2 : Z = decide (A.drop (k + 1) = B.drop (k + 1)) := by rw [hd]; simp [hxy]
            have HD := Lib.hid hd2
            clear hd hd2 hxk hyk HK hxy
            go_wp2_with fail
            go_region_with fail
            all_goals
              go_wp2_with fail
              go_roundw
              case rel => exact ⟨k + 1, by omega, by go_num, HBk.out.drew, HD.out⟩
              case measure => simp [intOf]; omega
          · have hne : ((x : Int) != (y : Int)) = true := by simp; omega
            have hzf : Z = false := by rw [hd]; simp [hxy]
            subst hzf
            clear hd hxk hyk HK hxy
            go_wp2_with fail
            go_region_with fail
            all_goals
              go_wp2_with fail
              go_ret2
              exact ⟨rfl, HB9.out.drew⟩
        · have hzt : Z = true := by
            rw [HK.out, List.drop_eq_nil_of_le (by omega), List.drop_eq_nil_of_le (by rw [← HAB.out]; omega)]; rfl
          subst hzt
          clear HK
          go_wp2_with fail
          go_ret2
          exact ⟨rfl, HB9.out⟩
    · have hne : decide (A = B) = false := decide_eq_false (fun e => hAB (by rw [e]))
      rw [hne]
      have hab : ((A.length : Int) != (B.length : Int)) = true := by simp; omega
      clear hne hAB
      go_enter Tryd.func31, Tryd.ntmps31
      go_wp2_with fail
      refine H1.out.mono ?_
      rintro e w1 ⟨rfl, hb1⟩
      go_wp2_with fail
      refine (HA.out _ hb1).mono ?_
      rintro e w2 ⟨v2, rfl, h2⟩
      obtain ⟨p2, c2, hv2⟩ := h2.own.slice
      rw [casts_len] at hv2
      have hb2 := below_via h2.bel hb1
      subst hv2
      clear h2 hb1
      go_wp2_with fail
      refine (HB.out _ hb2).mono ?_
      rintro e w3 ⟨v3, rfl, h3⟩
      obtain ⟨p3, c3, hv3⟩ := h3.own.slice
      rw [casts_len] at hv3
      have hb3 := below_via h3.bel hb2
      subst hv3
      clear h3 hb2
      go_wp2_with fail
      go_ret2
      exact ⟨rfl, hb3⟩
  · rw [if_neg hc]
    have hne : (checkedM xs ys n != 0) = true := bne_iff_ne.2 hc
    generalize checkedM xs ys n = q at *
    clear hc h hy hm hmy hp hq
    go_enter Tryd.func31, Tryd.ntmps31
    go_wp2_with fail
    refine H1.out.mono ?_
    rintro e w1 ⟨rfl, hb1⟩
    go_wp2_with fail
    go_ret2
    exact ⟨rfl, hb1⟩
set_option maxHeartbeats 4000000 in
theorem rf_Meet : Calls Tryd.prog 34 #[.slice p xs.length ca, .slice q ys.length cb, .int .i64 n] w (ListE (MeetM xs ys n) (checkedM xs ys n) w) := by
  have H1 : Hid (Calls Tryd.prog 83 #[.slice p xs.length ca, .slice q ys.length cb, .int .i64 n] w (Gives (.int .i64 (checkedM xs ys n)) w)) := rf_both xs ys n p q ca cb w h hy hm hmy
  unfold MeetM
  by_cases hc : checkedM xs ys n = 0
  · obtain ⟨hx0, hy0⟩ := checkedM_ok hc
    have R := right_of hx0
    have R2 := right_of hy0
    rw [if_pos hc, hc]
    rw [hc] at H1
    have HA := Lib.hid (ref_null xs n p ca w h hp R)
    have HB := Lib.hid (ref_null ys n q cb w hy hq R2)
    obtain ⟨m, rfl⟩ : ∃ m : Nat, n = m := ⟨n.toNat, by have := R.hn; omega⟩
    have h16 := R.h16
    rw [Int.toNat_natCast] at h16 HA HB ⊢
    have hlt : ∀ x ∈ nats xs, x < 2 ^ m := by have := R.lt; rwa [Int.toNat_natCast] at this
    have hlt2 : ∀ x ∈ nats ys, x < 2 ^ m := by have := R2.lt; rwa [Int.toNat_natCast] at this
    have hmt := meet_same h16 hlt hlt2 R.len R2.len
    have e1 := null_eq hlt R.len (show m ≤ 40 by omega)
    have e2 := null_eq hlt2 R2.len (show m ≤ 40 by omega)
    have hlA : (nullM (nats xs) m).length ≤ m := nullM_len R.len h16
    have hlB : (nullM (nats ys) m).length ≤ m := nullM_len R2.len h16
    have hA2 : ∀ x ∈ nullM (nats xs) m ++ nullM (nats ys) m, x < 2 ^ m := fun x hx => by
      rcases List.mem_append.1 hx with hx | hx
      · exact nullM_lt x hx
      · exact nullM_lt x hx
    rw [hmt, ← e1, ← e2]
    generalize nullM (nats xs) m = A at *
    generalize nullM (nats ys) m = B at *
    have HO : Hid (∀ v w', Mine w' w.heap.size v (casts A ++ casts B) → ∃ q c, v = .slice q (A ++ B).length c ∧ Calls Tryd.prog 72 #[.slice q (A ++ B).length c, .int .i64 (m : Int)] w' (Lists (orthR (A ++ B) m) w')) := fun v w' hm' => by
      rw [← casts_append] at hm'
      obtain ⟨q, c, hv, hi⟩ := hm'.ints
      rw [casts_len] at hv
      exact ⟨q, c, hv, rf_Orthogonal (A ++ B) (by simp; omega) m hA2 (by omega) q c w' hi (fun hq => by subst hq; subst hv; exact hm'.nil_cap)⟩
    generalize orthR (A ++ B) m = T at *
    have HAB : Hid ((casts A).length + (casts B).length ≤ 1000000) := by show _ ≤ _; rw [casts_len, casts_len]; omega
    clear hmt e1 e2 hA2 hlt hlt2 R R2 hx0 hy0 hc h hy hp hq hm hmy
    go_enter Tryd.func34, Tryd.ntmps34
    go_wp2_with fail
    refine H1.out.mono ?_
    rintro e w1 ⟨rfl, hb1⟩
    go_wp2_with fail
    refine (HA.out _ hb1).mono ?_
    rintro e w2 ⟨v2, rfl, h2⟩
    have hb2 := below_via h2.bel hb1
    have H2 := Lib.hid h2
    clear h2
    go_wp2_with fail
    refine (HB.out _ hb2).mono ?_
    rintro e w3 ⟨v3, rfl, h3⟩
    have HM3 := Lib.hid ((H2.out.own.low hb1.size).call h3.bel)
    have HM4 := Lib.hid h3.own
    have HB3 := Lib.hid (below_via h3.bel hb2)
    clear h3 H2 hb1 hb2
    go_wp2_with (at_builtin; refine wpList_appMany rfl (.tmp 18) (.tmp 21) rfl w.heap.size v2 (casts A) rfl HM3.out HB3.out.size HAB.out v3 rfl _ HM4.out ?_; intro v4 w4 hm4 hg4)
    have hb4 := HB3.out.grown hg4 HB3.out.size (fun k e => (HM3.out.lt e).1)
    obtain ⟨q5, c5, hv5, hC⟩ := HO.out _ _ hm4
    have HC := Lib.hid hC
    subst hv5
    clear hm4 hg4 hC HM3 HM4 HB3 HO
    go_wp2_with fail
    refine HC.out.mono ?_
    rintro e w6 ⟨v6, rfl, h6⟩
    go_wp2_with fail
    go_ret2
    exact ⟨v6, rfl, below_via h6.bel hb4, h6.own.low hb4.size⟩
  · rw [if_neg hc]
    have hne : (checkedM xs ys n != 0) = true := bne_iff_ne.2 hc
    generalize checkedM xs ys n = q at *
    clear hc h hy hm hmy hp hq
    go_enter Tryd.func34, Tryd.ntmps34
    go_wp2_with fail
    refine H1.out.mono ?_
    rintro e w1 ⟨rfl, hb1⟩
    go_wp2_with fail
    go_ret2
    exact ListE.error _ hb1
end
end Go.Proofs.YtpbcomdlboiddaaDoor
