
/- The reference's text of a number, and its Print. -/
import Derived.Test.YtcdmcndjbajhlaaGreatDoorJw
import Derived.Test.YtcdmcndjbajhlaaGreatDoorJb
set_option linter.all false
set_option maxRecDepth 100000
namespace Go.Proofs.YtcdmcndjbajhlaaGreatDoor
open Go.RowKit

theorem step_neg (tx Dg : ByteArray) (m k : Nat) (hk : k ≤ 3) (hm : 1 ≤ m) (hD : Dg.data.toList = Lib.decDigits m) (h : k = 0 ∨ m ≠ 1) : tx ++ { data := #[45] } ++ Dg ++ nameB k = stepT tx (-(m : Int)) (nameB k) := by
  refine list_inj ?_
  rw [stepT_list _ _ _ hk, if_neg (by omega), bytes_app, bytes_app, bytes_app, hD]
  unfold sg tmL bodyL
  have e : (-(m : Int)).natAbs = m := by omega
  rw [if_neg (by omega), if_pos (by omega), e, if_pos h]
  simp [nmL]
theorem step_neg1 (tx : ByteArray) (k : Nat) (hk : k ≤ 3) (h : k ≠ 0) : tx ++ { data := #[45] } ++ nameB k = stepT tx (-1) (nameB k) := by
  refine list_inj ?_
  rw [stepT_list _ _ _ hk, if_neg (by omega), bytes_app, bytes_app]
  unfold sg tmL bodyL
  rw [if_neg (by omega), if_pos (by omega), if_neg (by omega)]
  simp [nmL]
theorem step_posE (tx Dg : ByteArray) (m k : Nat) (hk : k ≤ 3) (hm : 1 ≤ m) (he : tx.toList.isEmpty = true) (hD : Dg.data.toList = Lib.decDigits m) (h : k = 0 ∨ m ≠ 1) : tx ++ Dg ++ nameB k = stepT tx m (nameB k) := by
  refine list_inj ?_
  rw [empty_list] at he
  rw [stepT_list _ _ _ hk, if_neg (by omega), bytes_app, bytes_app, hD, he]
  unfold sg tmL bodyL
  have e : (m : Int).natAbs = m := by omega
  rw [if_neg (by simp), if_neg (by omega), e, if_pos h]
  simp [nmL]
theorem step_posE1 (tx : ByteArray) (k : Nat) (hk : k ≤ 3) (he : tx.toList.isEmpty = true) (h : k ≠ 0) : tx ++ nameB k = stepT tx 1 (nameB k) := by
  refine list_inj ?_
  rw [empty_list] at he
  rw [stepT_list _ _ _ hk, if_neg (by omega), bytes_app, he]
  unfold sg tmL bodyL
  rw [if_neg (by simp), if_neg (by omega), if_neg (by omega)]
  simp [nmL]
theorem step_pos (tx Dg : ByteArray) (m k : Nat) (hk : k ≤ 3) (hm : 1 ≤ m) (he : tx.toList.isEmpty = false) (hD : Dg.data.toList = Lib.decDigits m) (h : k = 0 ∨ m ≠ 1) : tx ++ { data := #[43] } ++ Dg ++ nameB k = stepT tx m (nameB k) := by
  refine list_inj ?_
  rw [empty_list] at he
  rw [stepT_list _ _ _ hk, if_neg (by omega), bytes_app, bytes_app, bytes_app, hD, he]
  unfold sg tmL bodyL
  have e : (m : Int).natAbs = m := by omega
  rw [if_pos ⟨by omega, rfl⟩, if_neg (by omega), e, if_pos h]
  simp [nmL]
theorem step_pos1 (tx : ByteArray) (k : Nat) (hk : k ≤ 3) (he : tx.toList.isEmpty = false) (h : k ≠ 0) : tx ++ { data := #[43] } ++ nameB k = stepT tx 1 (nameB k) := by
  refine list_inj ?_
  rw [empty_list] at he
  rw [stepT_list _ _ _ hk, if_neg (by omega), bytes_app, bytes_app, he]
  unfold sg tmL bodyL
  rw [if_pos ⟨by omega, rfl⟩, if_neg (by omega), if_neg (by omega)]
  simp [nmL]
theorem step_zero (tx : ByteArray) (k : Nat) : tx = stepT tx 0 (nameB k) := by unfold stepT; rw [if_pos rfl]
theorem dig_new (m : Nat) (hm : m ≤ 1099511627776) : ∃ Dg : ByteArray, Dg.data.toList = Lib.decDigits m ∧ Dg.size ≤ 20 ∧ ∀ w, Calls Tryz.prog 99 #[.int .i64 m] w (Gives (.string Dg) w) := by
  refine ⟨⟨(Lib.decDigits m).toArray⟩, by simp, ?_, fun w => r_digits m w hm⟩
  rw [size_mk, Lib.decDigits_length]
  exact Lib.nDigits_le20 m (by omega)
theorem quad_new (w : World) (A B C D : Int) (T : Nat) : Quad (w.alloc (.cells #[.int .i64 A, .int .i64 B, .int .i64 C, .int .i64 D] T)) w.heap.size T ⟨A, B, C, D⟩ := heap_alloc_new w _
/-- What stands while the terms are written. -/
def InText (w : World) (bq : Nat) (x : Nm) (wr : World) : Prop := Below w.heap.size w wr ∧ Box wr w.heap.size 23 x ∧ Quad wr bq 3 ⟨x.A, x.B, x.C, x.D⟩ ∧ w.heap.size < bq
theorem InText.call {w W W' : World} {bq : Nat} {x : Nm} (h : InText w bq x W) (hb : Below W.heap.size W W') : InText w bq x W' :=
  ⟨below_via hb h.1, h.2.1.below hb h.2.1.lt, h.2.2.1.below hb h.2.2.1.lt, h.2.2.2⟩
theorem InText.al {w W : World} {bq : Nat} {x : Nm} (h : InText w bq x W) (o : Obj) : InText w bq x (W.alloc o) := h.call ((Below.refl _ _).alloc (Nat.le_refl _) o)
theorem zero_chk {x : Nm} (h : x.zero = true) (hK : x.K = 0) : printT x = { data := #[48] } := by
  obtain ⟨A, B, C, D, K⟩ := x
  simp only [Nm.zero, decide_eq_true_eq] at h
  obtain ⟨rfl, rfl, rfl, rfl⟩ := h
  dsimp only at hK
  subst hK
  have e : textU ⟨0, 0, 0, 0, 0⟩ 4 = { data := #[] } := by simp [textU, stepT, coefAt]
  unfold printT termsT
  rw [if_pos rfl, e, empty_list]
  rfl
theorem terms_full {x : Nm} (h : x.zero = false) : termsT x = textU x 4 := by
  unfold termsT
  rw [if_neg]
  rw [empty_list, textU_list]
  intro he
  have h0 := tl_empty _ _ (List.isEmpty_iff.1 he)
  have a := h0 (0, x.A) (.head _)
  have b := h0 (1, x.B) (.tail _ (.head _))
  have c := h0 (2, x.C) (.tail _ (.tail _ (.head _)))
  have d := h0 (3, x.D) (.tail _ (.tail _ (.tail _ (.head _))))
  dsimp only at a b c d
  have : x.zero = true := decide_eq_true ⟨a, b, c, d⟩
  rw [h] at this
  cases this
theorem coef_in {x : Nm} (h : x.chk = 0) (k : Nat) : -1073741824 ≤ coefAt x k ∧ coefAt x k ≤ 1073741824 := by
  have := chk_in h
  unfold coefAt
  split <;> omega

set_option maxHeartbeats 8000000 in
theorem r_text (x : Nm) (w : World) (hc : x.chk = 0) (hz0 : x.zero = true → x.K = 0) : Calls Tryz.prog 62 #[x.v] w (Gives (.string (printT x)) w) := by
  have HZ : Hid (∀ w, Calls Tryz.prog 94 #[x.v] w (Gives (.bool x.zero) w)) := fun w => r_zero x.A x.B x.C x.D x.K w
  cases hz : x.zero with
  | true =>
    rw [zero_chk hz (hz0 hz)]
    rw [hz] at HZ
    clear hc hz0 hz
    go_enter Tryz.func62, Tryz.ntmps62
    go_wp2_with fail
    refine (HZ.out _).mono ?_
    rintro e w1 ⟨rfl, hb⟩
    go_wp2_with fail
    go_ret
    exact ⟨rfl, (by repeat (first | with_reducible exact Below.refl _ _ | with_reducible refine below_al ?_ _ | with_reducible refine below_dN ?_ _ | with_reducible refine Below.drew ?_ | (with_reducible refine Below.setCell ?_ (by simp <;> omega) _) | (with_reducible refine below_via (by assumption) ?_)))⟩
  | false =>
    rw [hz] at HZ
    have hx := coef_in hc
    have HS := textU_size x (fun k => by have := hx k; omega)
    have hK := (chk_in hc).1
    obtain ⟨R, hR⟩ : ∃ R, R = printT x := ⟨_, rfl⟩
    rw [← hR]
    have hpr : R = if x.K = 0 then textU x 4 else { data := #[40] } ++ textU x 4 ++ { data := #[41, 47, 114] } ++ bytesOf x.K := by
      rw [hR]; unfold printT; rw [terms_full hz]
    have HR := Lib.hid hpr
    have HX := Lib.hid hx
    clear hc hz0 hz hR hpr hx
    obtain ⟨A, B, C, D, K⟩ := x
    dsimp only at hK
    obtain ⟨hK1, hK2⟩ := hK
    have HSH := Lib.hid HS
    clear HS
    go_enter Tryz.func62, Tryz.ntmps62
    go_wp2_with fail
    refine (HZ.out _).mono ?_
    rintro e w1 ⟨rfl, hb⟩
    have hw1 : Below w.heap.size w w1 := below_via hb (by repeat (first | with_reducible exact Below.refl _ _ | with_reducible refine below_al ?_ _ | with_reducible refine below_dN ?_ _ | with_reducible refine Below.drew ?_ | (with_reducible refine Below.setCell ?_ (by simp <;> omega) _) | (with_reducible refine below_via (by assumption) ?_)))
    have hx1 : Box w1 w.heap.size 23 ⟨A, B, C, D, K⟩ := (box_new w _ _ _ _ _ _).below hb (by simp <;> omega)
    have hI : InText w w1.heap.size ⟨A, B, C, D, K⟩ (w1.alloc (.cells #[.int .i64 A, .int .i64 B, .int .i64 C, .int .i64 D] 3)) := ⟨below_al hw1 _, box_al hx1 _, quad_new w1 A B C D _, hx1.lt⟩
    have HI := Lib.hid hI
    obtain ⟨x0, x1, x2, x3, x4⟩ := hx1.cell
    have hlt := hx1.lt
    dsimp only at x0 x1 x2 x3 x4
    clear hx1 hI hb
    go_wp2_with fail
    generalize w1.heap.size = bq at HI ⊢
    clear x0 x1 x2 x3 x4 hlt hw1 HZ
    go_loopw [3, 5] (fun t i wr => ∃ k : Nat, k ≤ 4 ∧ i = .int .i64 k ∧ t = .string (textU ⟨A, B, C, D, K⟩ k) ∧ Hid (InText w bq ⟨A, B, C, D, K⟩ wr)) (fun _ i _ => 4 - (intOf i).toNat)
    case atStart => exact ⟨0, by omega, rfl, rfl, HI.out⟩
    case round =>
      obtain ⟨k, hk, rfl, rfl, HI⟩ := hrel
      obtain ⟨x0, x1, x2, x3, x4⟩ := HI.out.2.1.cell
      obtain ⟨q0, q1, q2, q3⟩ := HI.out.2.2.1.cell
      have hlt := HI.out.2.2.1.lt
      have hltx := HI.out.2.1.lt
      have hwr := HI.out.1
      dsimp only at x0 x1 x2 x3 x4 q0 q1 q2 q3
      have hk4 : k = 4 ∨ k = 0 ∨ k = 1 ∨ k = 2 ∨ k = 3 := by omega
      rcases hk4 with rfl | rfl | rfl | rfl | rfl
      · have hs := HSH.out 4
        generalize textU ⟨A, B, C, D, K⟩ 4 = tx at *
        by_cases h0 : K = 0
        · subst h0
          have hr : R = tx := by rw [HR.out, if_pos rfl]
          have HRR := Lib.hid hr
          clear hr HR
          go_wp2_with fail
          go_ret
          rw [HRR.out]
          exact ⟨rfl, hwr⟩
        · have hKp : 0 < K := by omega
          obtain ⟨m, rfl⟩ : ∃ m : Nat, K = m := ⟨K.toNat, by omega⟩
          obtain ⟨Dg, hD1, hD2, hD3⟩ := dig_new m (by omega)
          have hr : R = { data := #[40] } ++ tx ++ { data := #[41, 47, 114] } ++ Dg := by
            rw [HR.out, if_neg h0]
            refine list_inj ?_
            rw [bytes_app, bytes_app _ Dg, hD1]
            congr 1
          have HRR := Lib.hid hr
          have HD := Lib.hid hD3
          have o1 : ¬ 9223372036854775807 < 1 + tx.size := by omega
          have o2 : ¬ 9223372036854775807 < 1 + tx.size + 3 := by omega
          have o3 : ¬ 9223372036854775807 < 1 + tx.size + 3 + Dg.size := by omega
          clear hr hD1 hD3 HR h0
          go_wp2_with fail
          refine (HD.out _).mono ?_
          rintro e w2 ⟨rfl, hb2⟩
          go_wp2_with fail
          go_ret
          rw [HRR.out]
          exact ⟨rfl, below_via hb2 hwr⟩
      · have hs := HSH.out 0
        have hn : -1073741824 ≤ A ∧ A ≤ 1073741824 := HX.out 0
        have hnext : textU ⟨A, B, C, D, K⟩ 1 = stepT (textU ⟨A, B, C, D, K⟩ 0) A (nameB 0) := rfl
        generalize textU ⟨A, B, C, D, K⟩ 0 = tx at *
        have HN := Lib.hid hnext
        clear hnext HX HSH HR
        rcases Int.lt_trichotomy A 0 with hz | hz | hz
        · obtain ⟨m, rfl⟩ : ∃ m : Nat, A = -(m : Int) := ⟨A.natAbs, by omega⟩
          have hm1 : 1 ≤ m := by omega
          have hm2 : m ≤ 1073741824 := by omega
          obtain ⟨Dg, hD1, hD2, hD3⟩ := dig_new m (by omega)
          have HD1 := Lib.hid hD1
          have HD := Lib.hid hD3
          have o1 : ¬ 9223372036854775807 < tx.size + 1 := by omega
          have o2 : ¬ 9223372036854775807 < tx.size + Dg.size := by omega
          have o3 : ¬ 9223372036854775807 < tx.size + 1 + Dg.size := by omega
          have o4 : ¬ 9223372036854775807 < tx.size + Dg.size + 0 := by omega
          have o5 : ¬ 9223372036854775807 < tx.size + 1 + Dg.size + 0 := by omega
          have o6 : ¬ 9223372036854775807 < tx.size + 0 := by omega
          have o7 : ¬ 9223372036854775807 < tx.size + 1 + 0 := by omega
          clear hD1 hD3 hs
          by_cases h1 : m = 1
          · have b1 : ((m : Int) != 1) = false := by rw [bne_eq_false_iff_eq]; omega
            have H1 := Lib.hid h1
            clear h1
            have HV : Hid (tx ++ { data := #[45] } ++ Dg ++ nameB 0 = _) := Eq.trans (step_neg tx Dg m 0 (by omega) hm1 HD1.out (.inl rfl)) HN.out.symm
            clear HN
            go_wp2_with fail
            (with_reducible refine (HD.out _).mono ?_)
            rintro e w2 ⟨rfl, hb2⟩
            have HW := Lib.hid (HI.out.call hb2)
            clear x0 x1 x2 x3 x4 q0 q1 q2 q3 hlt hltx hwr HI
            go_wp2_with fail
            go_roundw
            case rel => exact ⟨1, by omega, by go_num, congrArg Value.string HV.out, HW.out.al _⟩
            case measure => simp [intOf]
          · have b1 : ((m : Int) != 1) = true := by rw [bne_iff_ne]; omega
            have HV : Hid (tx ++ { data := #[45] } ++ Dg ++ nameB 0 = _) := Eq.trans (step_neg tx Dg m 0 (by omega) hm1 HD1.out (.inr h1)) HN.out.symm
            clear HN
            go_wp2_with fail
            (with_reducible refine (HD.out _).mono ?_)
            rintro e w2 ⟨rfl, hb2⟩
            have HW := Lib.hid (HI.out.call hb2)
            clear x0 x1 x2 x3 x4 q0 q1 q2 q3 hlt hltx hwr HI
            go_wp2_with fail
            go_roundw
            case rel => exact ⟨1, by omega, by go_num, congrArg Value.string HV.out, HW.out.al _⟩
            case measure => simp [intOf]
        · subst hz
          have HV : Hid (tx = _) := (step_zero tx 0).trans HN.out.symm
          clear HN
          go_wp2_with fail
          go_roundw
          case rel => exact ⟨1, by omega, by go_num, congrArg Value.string HV.out, HI.out⟩
          case measure => simp [intOf]
        · obtain ⟨m, rfl⟩ : ∃ m : Nat, A = (m : Int) := ⟨A.natAbs, by omega⟩
          have hm1 : 1 ≤ m := by omega
          have hm2 : m ≤ 1073741824 := by omega
          obtain ⟨Dg, hD1, hD2, hD3⟩ := dig_new m (by omega)
          have HD1 := Lib.hid hD1
          have HD := Lib.hid hD3
          have o1 : ¬ 9223372036854775807 < tx.size + 1 := by omega
          have o2 : ¬ 9223372036854775807 < tx.size + Dg.size := by omega
          have o3 : ¬ 9223372036854775807 < tx.size + 1 + Dg.size := by omega
          have o4 : ¬ 9223372036854775807 < tx.size + Dg.size + 0 := by omega
          have o5 : ¬ 9223372036854775807 < tx.size + 1 + Dg.size + 0 := by omega
          have o6 : ¬ 9223372036854775807 < tx.size + 0 := by omega
          have o7 : ¬ 9223372036854775807 < tx.size + 1 + 0 := by omega
          clear hD1 hD3 hs
          cases he : tx.toList.isEmpty with
          | false =>
            have HE := Lib.hid he
            by_cases h1 : m = 1
            · have b1 : ((m : Int) != 1) = false := by rw [bne_eq_false_iff_eq]; omega
              have H1 := Lib.hid h1
              clear h1
              have HV : Hid (tx ++ { data := #[43] } ++ Dg ++ nameB 0 = _) := Eq.trans (step_pos tx Dg m 0 (by omega) hm1 HE.out HD1.out (.inl rfl)) HN.out.symm
              clear HN
              go_wp2_with fail
              (with_reducible refine (HD.out _).mono ?_)
              rintro e w2 ⟨rfl, hb2⟩
              have HW := Lib.hid (HI.out.call hb2)
              clear x0 x1 x2 x3 x4 q0 q1 q2 q3 hlt hltx hwr HI
              go_wp2_with fail
              go_roundw
              case rel => exact ⟨1, by omega, by go_num, congrArg Value.string HV.out, HW.out.al _⟩
              case measure => simp [intOf]
            · have b1 : ((m : Int) != 1) = true := by rw [bne_iff_ne]; omega
              have HV : Hid (tx ++ { data := #[43] } ++ Dg ++ nameB 0 = _) := Eq.trans (step_pos tx Dg m 0 (by omega) hm1 HE.out HD1.out (.inr h1)) HN.out.symm
              clear HN
              go_wp2_with fail
              (with_reducible refine (HD.out _).mono ?_)
              rintro e w2 ⟨rfl, hb2⟩
              have HW := Lib.hid (HI.out.call hb2)
              clear x0 x1 x2 x3 x4 q0 q1 q2 q3 hlt hltx hwr HI
              go_wp2_with fail
              go_roundw
              case rel => exact ⟨1, by omega, by go_num, congrArg Value.string HV.out, HW.out.al _⟩
              case measure => simp [intOf]
          | true =>
            have HE := Lib.hid he
            by_cases h1 : m = 1
            · have b1 : ((m : Int) != 1) = false := by rw [bne_eq_false_iff_eq]; omega
              have H1 := Lib.hid h1
              clear h1
              have HV : Hid (tx ++ Dg ++ nameB 0 = _) := Eq.trans (step_posE tx Dg m 0 (by omega) hm1 HE.out HD1.out (.inl rfl)) HN.out.symm
              clear HN
              go_wp2_with fail
              (with_reducible refine (HD.out _).mono ?_)
              rintro e w2 ⟨rfl, hb2⟩
              have HW := Lib.hid (HI.out.call hb2)
              clear x0 x1 x2 x3 x4 q0 q1 q2 q3 hlt hltx hwr HI
              go_wp2_with fail
              go_roundw
              case rel => exact ⟨1, by omega, by go_num, congrArg Value.string HV.out, HW.out.al _⟩
              case measure => simp [intOf]
            · have b1 : ((m : Int) != 1) = true := by rw [bne_iff_ne]; omega
              have HV : Hid (tx ++ Dg ++ nameB 0 = _) := Eq.trans (step_posE tx Dg m 0 (by omega) hm1 HE.out HD1.out (.inr h1)) HN.out.symm
              clear HN
              go_wp2_with fail
              (with_reducible refine (HD.out _).mono ?_)
              rintro e w2 ⟨rfl, hb2⟩
              have HW := Lib.hid (HI.out.call hb2)
              clear x0 x1 x2 x3 x4 q0 q1 q2 q3 hlt hltx hwr HI
              go_wp2_with fail
              go_roundw
              case rel => exact ⟨1, by omega, by go_num, congrArg Value.string HV.out, HW.out.al _⟩
              case measure => simp [intOf]
      · have hs := HSH.out 1
        have hn : -1073741824 ≤ B ∧ B ≤ 1073741824 := HX.out 1
        have hnext : textU ⟨A, B, C, D, K⟩ 2 = stepT (textU ⟨A, B, C, D, K⟩ 1) B (nameB 1) := rfl
        generalize textU ⟨A, B, C, D, K⟩ 1 = tx at *
        have HN := Lib.hid hnext
        clear hnext HX HSH HR
        rcases Int.lt_trichotomy B 0 with hz | hz | hz
        · obtain ⟨m, rfl⟩ : ∃ m : Nat, B = -(m : Int) := ⟨B.natAbs, by omega⟩
          have hm1 : 1 ≤ m := by omega
          have hm2 : m ≤ 1073741824 := by omega
          obtain ⟨Dg, hD1, hD2, hD3⟩ := dig_new m (by omega)
          have HD1 := Lib.hid hD1
          have HD := Lib.hid hD3
          have o1 : ¬ 9223372036854775807 < tx.size + 1 := by omega
          have o2 : ¬ 9223372036854775807 < tx.size + Dg.size := by omega
          have o3 : ¬ 9223372036854775807 < tx.size + 1 + Dg.size := by omega
          have o4 : ¬ 9223372036854775807 < tx.size + Dg.size + 1 := by omega
          have o5 : ¬ 9223372036854775807 < tx.size + 1 + Dg.size + 1 := by omega
          have o6 : ¬ 9223372036854775807 < tx.size + 1 := by omega
          have o7 : ¬ 9223372036854775807 < tx.size + 1 + 1 := by omega
          clear hD1 hD3 hs
          by_cases h1 : m = 1
          · have b1 : ((m : Int) != 1) = false := by rw [bne_eq_false_iff_eq]; omega
            have H1 := Lib.hid h1
            clear h1
            have HV : Hid (tx ++ { data := #[45] } ++ nameB 1 = _) := Eq.trans (by rw [H1.out]; exact step_neg1 tx 1 (by omega) (by omega)) HN.out.symm
            clear HN
            have HW := HI
            go_wp2_with fail
            go_roundw
            case rel => exact ⟨2, by omega, by go_num, congrArg Value.string HV.out, HW.out.al _⟩
            case measure => simp [intOf]
          · have b1 : ((m : Int) != 1) = true := by rw [bne_iff_ne]; omega
            have HV : Hid (tx ++ { data := #[45] } ++ Dg ++ nameB 1 = _) := Eq.trans (step_neg tx Dg m 1 (by omega) hm1 HD1.out (.inr h1)) HN.out.symm
            clear HN
            go_wp2_with fail
            (with_reducible refine (HD.out _).mono ?_)
            rintro e w2 ⟨rfl, hb2⟩
            have HW := Lib.hid (HI.out.call hb2)
            clear x0 x1 x2 x3 x4 q0 q1 q2 q3 hlt hltx hwr HI
            go_wp2_with fail
            go_roundw
            case rel => exact ⟨2, by omega, by go_num, congrArg Value.string HV.out, HW.out.al _⟩
            case measure => simp [intOf]
        · subst hz
          have HV : Hid (tx = _) := (step_zero tx 1).trans HN.out.symm
          clear HN
          go_wp2_with fail
          go_roundw
          case rel => exact ⟨2, by omega, by go_num, congrArg Value.string HV.out, HI.out⟩
          case measure => simp [intOf]
        · obtain ⟨m, rfl⟩ : ∃ m : Nat, B = (m : Int) := ⟨B.natAbs, by omega⟩
          have hm1 : 1 ≤ m := by omega
          have hm2 : m ≤ 1073741824 := by omega
          obtain ⟨Dg, hD1, hD2, hD3⟩ := dig_new m (by omega)
          have HD1 := Lib.hid hD1
          have HD := Lib.hid hD3
          have o1 : ¬ 9223372036854775807 < tx.size + 1 := by omega
          have o2 : ¬ 9223372036854775807 < tx.size + Dg.size := by omega
          have o3 : ¬ 9223372036854775807 < tx.size + 1 + Dg.size := by omega
          have o4 : ¬ 9223372036854775807 < tx.size + Dg.size + 1 := by omega
          have o5 : ¬ 9223372036854775807 < tx.size + 1 + Dg.size + 1 := by omega
          have o6 : ¬ 9223372036854775807 < tx.size + 1 := by omega
          have o7 : ¬ 9223372036854775807 < tx.size + 1 + 1 := by omega
          clear hD1 hD3 hs
          cases he : tx.toList.isEmpty with
          | false =>
            have HE := Lib.hid he
            by_cases h1 : m = 1
            · have b1 : ((m : Int) != 1) = false := by rw [bne_eq_false_iff_eq]; omega
              have H1 := Lib.hid h1
              clear h1
              have HV : Hid (tx ++ { data := #[43] } ++ nameB 1 = _) := Eq.trans (by rw [H1.out]; exact step_pos1 tx 1 (by omega) HE.out (by omega)) HN.out.symm
              clear HN
              have HW := HI
              go_wp2_with fail
              go_roundw
              case rel => exact ⟨2, by omega, by go_num, congrArg Value.string HV.out, HW.out.al _⟩
              case measure => simp [intOf]
            · have b1 : ((m : Int) != 1) = true := by rw [bne_iff_ne]; omega
              have HV : Hid (tx ++ { data := #[43] } ++ Dg ++ nameB 1 = _) := Eq.trans (step_pos tx Dg m 1 (by omega) hm1 HE.out HD1.out (.inr h1)) HN.out.symm
              clear HN
              go_wp2_with fail
              (with_reducible refine (HD.out _).mono ?_)
              rintro e w2 ⟨rfl, hb2⟩
              have HW := Lib.hid (HI.out.call hb2)
              clear x0 x1 x2 x3 x4 q0 q1 q2 q3 hlt hltx hwr HI
              go_wp2_with fail
              go_roundw
              case rel => exact ⟨2, by omega, by go_num, congrArg Value.string HV.out, HW.out.al _⟩
              case measure => simp [intOf]
          | true =>
            have HE := Lib.hid he
            by_cases h1 : m = 1
            · have b1 : ((m : Int) != 1) = false := by rw [bne_eq_false_iff_eq]; omega
              have H1 := Lib.hid h1
              clear h1
              have HV : Hid (tx ++ nameB 1 = _) := Eq.trans (by rw [H1.out]; exact step_posE1 tx 1 (by omega) HE.out (by omega)) HN.out.symm
              clear HN
              have HW := HI
              go_wp2_with fail
              go_roundw
              case rel => exact ⟨2, by omega, by go_num, congrArg Value.string HV.out, HW.out.al _⟩
              case measure => simp [intOf]
            · have b1 : ((m : Int) != 1) = true := by rw [bne_iff_ne]; omega
              have HV : Hid (tx ++ Dg ++ nameB 1 = _) := Eq.trans (step_posE tx Dg m 1 (by omega) hm1 HE.out HD1.out (.inr h1)) HN.out.symm
              clear HN
              go_wp2_with fail
              (with_reducible refine (HD.out _).mono ?_)
              rintro e w2 ⟨rfl, hb2⟩
              have HW := Lib.hid (HI.out.call hb2)
              clear x0 x1 x2 x3 x4 q0 q1 q2 q3 hlt hltx hwr HI
              go_wp2_with fail
              go_roundw
              case rel => exact ⟨2, by omega, by go_num, congrArg Value.string HV.out, HW.out.al _⟩
              case measure => simp [intOf]
      · have hs := HSH.out 2
        have hn : -1073741824 ≤ C ∧ C ≤ 1073741824 := HX.out 2
        have hnext : textU ⟨A, B, C, D, K⟩ 3 = stepT (textU ⟨A, B, C, D, K⟩ 2) C (nameB 2) := rfl
        generalize textU ⟨A, B, C, D, K⟩ 2 = tx at *
        have HN := Lib.hid hnext
        clear hnext HX HSH HR
        rcases Int.lt_trichotomy C 0 with hz | hz | hz
        · obtain ⟨m, rfl⟩ : ∃ m : Nat, C = -(m : Int) := ⟨C.natAbs, by omega⟩
          have hm1 : 1 ≤ m := by omega
          have hm2 : m ≤ 1073741824 := by omega
          obtain ⟨Dg, hD1, hD2, hD3⟩ := dig_new m (by omega)
          have HD1 := Lib.hid hD1
          have HD := Lib.hid hD3
          have o1 : ¬ 9223372036854775807 < tx.size + 1 := by omega
          have o2 : ¬ 9223372036854775807 < tx.size + Dg.size := by omega
          have o3 : ¬ 9223372036854775807 < tx.size + 1 + Dg.size := by omega
          have o4 : ¬ 9223372036854775807 < tx.size + Dg.size + 2 := by omega
          have o5 : ¬ 9223372036854775807 < tx.size + 1 + Dg.size + 2 := by omega
          have o6 : ¬ 9223372036854775807 < tx.size + 2 := by omega
          have o7 : ¬ 9223372036854775807 < tx.size + 1 + 2 := by omega
          clear hD1 hD3 hs
          by_cases h1 : m = 1
          · have b1 : ((m : Int) != 1) = false := by rw [bne_eq_false_iff_eq]; omega
            have H1 := Lib.hid h1
            clear h1
            have HV : Hid (tx ++ { data := #[45] } ++ nameB 2 = _) := Eq.trans (by rw [H1.out]; exact step_neg1 tx 2 (by omega) (by omega)) HN.out.symm
            clear HN
            have HW := HI
            go_wp2_with fail
            go_roundw
            case rel => exact ⟨3, by omega, by go_num, congrArg Value.string HV.out, HW.out.al _⟩
            case measure => simp [intOf]
          · have b1 : ((m : Int) != 1) = true := by rw [bne_iff_ne]; omega
            have HV : Hid (tx ++ { data := #[45] } ++ Dg ++ nameB 2 = _) := Eq.trans (step_neg tx Dg m 2 (by omega) hm1 HD1.out (.inr h1)) HN.out.symm
            clear HN
            go_wp2_with fail
            (with_reducible refine (HD.out _).mono ?_)
            rintro e w2 ⟨rfl, hb2⟩
            have HW := Lib.hid (HI.out.call hb2)
            clear x0 x1 x2 x3 x4 q0 q1 q2 q3 hlt hltx hwr HI
            go_wp2_with fail
            go_roundw
            case rel => exact ⟨3, by omega, by go_num, congrArg Value.string HV.out, HW.out.al _⟩
            case measure => simp [intOf]
        · subst hz
          have HV : Hid (tx = _) := (step_zero tx 2).trans HN.out.symm
          clear HN
          go_wp2_with fail
          go_roundw
          case rel => exact ⟨3, by omega, by go_num, congrArg Value.string HV.out, HI.out⟩
          case measure => simp [intOf]
        · obtain ⟨m, rfl⟩ : ∃ m : Nat, C = (m : Int) := ⟨C.natAbs, by omega⟩
          have hm1 : 1 ≤ m := by omega
          have hm2 : m ≤ 1073741824 := by omega
          obtain ⟨Dg, hD1, hD2, hD3⟩ := dig_new m (by omega)
          have HD1 := Lib.hid hD1
          have HD := Lib.hid hD3
          have o1 : ¬ 9223372036854775807 < tx.size + 1 := by omega
          have o2 : ¬ 9223372036854775807 < tx.size + Dg.size := by omega
          have o3 : ¬ 9223372036854775807 < tx.size + 1 + Dg.size := by omega
          have o4 : ¬ 9223372036854775807 < tx.size + Dg.size + 2 := by omega
          have o5 : ¬ 9223372036854775807 < tx.size + 1 + Dg.size + 2 := by omega
          have o6 : ¬ 9223372036854775807 < tx.size + 2 := by omega
          have o7 : ¬ 9223372036854775807 < tx.size + 1 + 2 := by omega
          clear hD1 hD3 hs
          cases he : tx.toList.isEmpty with
          | false =>
            have HE := Lib.hid he
            by_cases h1 : m = 1
            · have b1 : ((m : Int) != 1) = false := by rw [bne_eq_false_iff_eq]; omega
              have H1 := Lib.hid h1
              clear h1
              have HV : Hid (tx ++ { data := #[43] } ++ nameB 2 = _) := Eq.trans (by rw [H1.out]; exact step_pos1 tx 2 (by omega) HE.out (by omega)) HN.out.symm
              clear HN
              have HW := HI
              go_wp2_with fail
              go_roundw
              case rel => exact ⟨3, by omega, by go_num, congrArg Value.string HV.out, HW.out.al _⟩
              case measure => simp [intOf]
            · have b1 : ((m : Int) != 1) = true := by rw [bne_iff_ne]; omega
              have HV : Hid (tx ++ { data := #[43] } ++ Dg ++ nameB 2 = _) := Eq.trans (step_pos tx Dg m 2 (by omega) hm1 HE.out HD1.out (.inr h1)) HN.out.symm
              clear HN
              go_wp2_with fail
              (with_reducible refine (HD.out _).mono ?_)
              rintro e w2 ⟨rfl, hb2⟩
              have HW := Lib.hid (HI.out.call hb2)
              clear x0 x1 x2 x3 x4 q0 q1 q2 q3 hlt hltx hwr HI
              go_wp2_with fail
              go_roundw
              case rel => exact ⟨3, by omega, by go_num, congrArg Value.string HV.out, HW.out.al _⟩
              case measure => simp [intOf]
          | true =>
            have HE := Lib.hid he
            by_cases h1 : m = 1
            · have b1 : ((m : Int) != 1) = false := by rw [bne_eq_false_iff_eq]; omega
              have H1 := Lib.hid h1
              clear h1
              have HV : Hid (tx ++ nameB 2 = _) := Eq.trans (by rw [H1.out]; exact step_posE1 tx 2 (by omega) HE.out (by omega)) HN.out.symm
              clear HN
              have HW := HI
              go_wp2_with fail
              go_roundw
              case rel => exact ⟨3, by omega, by go_num, congrArg Value.string HV.out, HW.out.al _⟩
              case measure => simp [intOf]
            · have b1 : ((m : Int) != 1) = true := by rw [bne_iff_ne]; omega
              have HV : Hid (tx ++ Dg ++ nameB 2 = _) := Eq.trans (step_posE tx Dg m 2 (by omega) hm1 HE.out HD1.out (.inr h1)) HN.out.symm
              clear HN
              go_wp2_with fail
              (with_reducible refine (HD.out _).mono ?_)
              rintro e w2 ⟨rfl, hb2⟩
              have HW := Lib.hid (HI.out.call hb2)
              clear x0 x1 x2 x3 x4 q0 q1 q2 q3 hlt hltx hwr HI
              go_wp2_with fail
              go_roundw
              case rel => exact ⟨3, by omega, by go_num, congrArg Value.string HV.out, HW.out.al _⟩
              case measure => simp [intOf]
      · have hs := HSH.out 3
        have hn : -1073741824 ≤ D ∧ D ≤ 1073741824 := HX.out 3
        have hnext : textU ⟨A, B, C, D, K⟩ 4 = stepT (textU ⟨A, B, C, D, K⟩ 3) D (nameB 3) := rfl
        generalize textU ⟨A, B, C, D, K⟩ 3 = tx at *
        have HN := Lib.hid hnext
        clear hnext HX HSH HR
        rcases Int.lt_trichotomy D 0 with hz | hz | hz
        · obtain ⟨m, rfl⟩ : ∃ m : Nat, D = -(m : Int) := ⟨D.natAbs, by omega⟩
          have hm1 : 1 ≤ m := by omega
          have hm2 : m ≤ 1073741824 := by omega
          obtain ⟨Dg, hD1, hD2, hD3⟩ := dig_new m (by omega)
          have HD1 := Lib.hid hD1
          have HD := Lib.hid hD3
          have o1 : ¬ 9223372036854775807 < tx.size + 1 := by omega
          have o2 : ¬ 9223372036854775807 < tx.size + Dg.size := by omega
          have o3 : ¬ 9223372036854775807 < tx.size + 1 + Dg.size := by omega
          have o4 : ¬ 9223372036854775807 < tx.size + Dg.size + 2 := by omega
          have o5 : ¬ 9223372036854775807 < tx.size + 1 + Dg.size + 2 := by omega
          have o6 : ¬ 9223372036854775807 < tx.size + 2 := by omega
          have o7 : ¬ 9223372036854775807 < tx.size + 1 + 2 := by omega
          clear hD1 hD3 hs
          by_cases h1 : m = 1
          · have b1 : ((m : Int) != 1) = false := by rw [bne_eq_false_iff_eq]; omega
            have H1 := Lib.hid h1
            clear h1
            have HV : Hid (tx ++ { data := #[45] } ++ nameB 3 = _) := Eq.trans (by rw [H1.out]; exact step_neg1 tx 3 (by omega) (by omega)) HN.out.symm
            clear HN
            have HW := HI
            go_wp2_with fail
            go_roundw
            case rel => exact ⟨4, by omega, by go_num, congrArg Value.string HV.out, HW.out.al _⟩
            case measure => simp [intOf]
          · have b1 : ((m : Int) != 1) = true := by rw [bne_iff_ne]; omega
            have HV : Hid (tx ++ { data := #[45] } ++ Dg ++ nameB 3 = _) := Eq.trans (step_neg tx Dg m 3 (by omega) hm1 HD1.out (.inr h1)) HN.out.symm
            clear HN
            go_wp2_with fail
            (with_reducible refine (HD.out _).mono ?_)
            rintro e w2 ⟨rfl, hb2⟩
            have HW := Lib.hid (HI.out.call hb2)
            clear x0 x1 x2 x3 x4 q0 q1 q2 q3 hlt hltx hwr HI
            go_wp2_with fail
            go_roundw
            case rel => exact ⟨4, by omega, by go_num, congrArg Value.string HV.out, HW.out.al _⟩
            case measure => simp [intOf]
        · subst hz
          have HV : Hid (tx = _) := (step_zero tx 3).trans HN.out.symm
          clear HN
          go_wp2_with fail
          go_roundw
          case rel => exact ⟨4, by omega, by go_num, congrArg Value.string HV.out, HI.out⟩
          case measure => simp [intOf]
        · obtain ⟨m, rfl⟩ : ∃ m : Nat, D = (m : Int) := ⟨D.natAbs, by omega⟩
          have hm1 : 1 ≤ m := by omega
          have hm2 : m ≤ 1073741824 := by omega
          obtain ⟨Dg, hD1, hD2, hD3⟩ := dig_new m (by omega)
          have HD1 := Lib.hid hD1
          have HD := Lib.hid hD3
          have o1 : ¬ 9223372036854775807 < tx.size + 1 := by omega
          have o2 : ¬ 9223372036854775807 < tx.size + Dg.size := by omega
          have o3 : ¬ 9223372036854775807 < tx.size + 1 + Dg.size := by omega
          have o4 : ¬ 9223372036854775807 < tx.size + Dg.size + 2 := by omega
          have o5 : ¬ 9223372036854775807 < tx.size + 1 + Dg.size + 2 := by omega
          have o6 : ¬ 9223372036854775807 < tx.size + 2 := by omega
          have o7 : ¬ 9223372036854775807 < tx.size + 1 + 2 := by omega
          clear hD1 hD3 hs
          cases he : tx.toList.isEmpty with
          | false =>
            have HE := Lib.hid he
            by_cases h1 : m = 1
            · have b1 : ((m : Int) != 1) = false := by rw [bne_eq_false_iff_eq]; omega
              have H1 := Lib.hid h1
              clear h1
              have HV : Hid (tx ++ { data := #[43] } ++ nameB 3 = _) := Eq.trans (by rw [H1.out]; exact step_pos1 tx 3 (by omega) HE.out (by omega)) HN.out.symm
              clear HN
              have HW := HI
              go_wp2_with fail
              go_roundw
              case rel => exact ⟨4, by omega, by go_num, congrArg Value.string HV.out, HW.out.al _⟩
              case measure => simp [intOf]
            · have b1 : ((m : Int) != 1) = true := by rw [bne_iff_ne]; omega
              have HV : Hid (tx ++ { data := #[43] } ++ Dg ++ nameB 3 = _) := Eq.trans (step_pos tx Dg m 3 (by omega) hm1 HE.out HD1.out (.inr h1)) HN.out.symm
              clear HN
              go_wp2_with fail
              (with_reducible refine (HD.out _).mono ?_)
              rintro e w2 ⟨rfl, hb2⟩
              have HW := Lib.hid (HI.out.call hb2)
              clear x0 x1 x2 x3 x4 q0 q1 q2 q3 hlt hltx hwr HI
              go_wp2_with fail
              go_roundw
              case rel => exact ⟨4, by omega, by go_num, congrArg Value.string HV.out, HW.out.al _⟩
              case measure => simp [intOf]
          | true =>
            have HE := Lib.hid he
            by_cases h1 : m = 1
            · have b1 : ((m : Int) != 1) = false := by rw [bne_eq_false_iff_eq]; omega
              have H1 := Lib.hid h1
              clear h1
              have HV : Hid (tx ++ nameB 3 = _) := Eq.trans (by rw [H1.out]; exact step_posE1 tx 3 (by omega) HE.out (by omega)) HN.out.symm
              clear HN
              have HW := HI
              go_wp2_with fail
              go_roundw
              case rel => exact ⟨4, by omega, by go_num, congrArg Value.string HV.out, HW.out.al _⟩
              case measure => simp [intOf]
            · have b1 : ((m : Int) != 1) = true := by rw [bne_iff_ne]; omega
              have HV : Hid (tx ++ Dg ++ nameB 3 = _) := Eq.trans (step_posE tx Dg m 3 (by omega) hm1 HE.out HD1.out (.inr h1)) HN.out.symm
              clear HN
              go_wp2_with fail
              (with_reducible refine (HD.out _).mono ?_)
              rintro e w2 ⟨rfl, hb2⟩
              have HW := Lib.hid (HI.out.call hb2)
              clear x0 x1 x2 x3 x4 q0 q1 q2 q3 hlt hltx hwr HI
              go_wp2_with fail
              go_roundw
              case rel => exact ⟨4, by omega, by go_num, congrArg Value.string HV.out, HW.out.al _⟩
              case measure => simp [intOf]

set_option maxHeartbeats 2000000 in
theorem r_Print (x : Nm) (w : World) : Calls Tryz.prog 20 #[x.v] w (Gives (.tuple #[.string (if x.chk = 0 then printT x.least else { data := #[] }), .int .i64 x.chk]) w) := by
  have HC : Hid (∀ w, Calls Tryz.prog 41 #[x.v] w (Gives (.int .i64 x.chk) w)) := fun w => r_check _ _ _ _ _ w
  by_cases h : x.chk = 0
  · have hk := chk_in h
    have HF : Hid (∀ w, Calls Tryz.prog 63 #[x.v] w (Gives x.least.v w)) := fun w => r_form x w (right_wide h) (by omega)
    have hl : x.least.chk = 0 := least_fine (by simp [Nm.inb, inb]; omega) (by omega)
    have hz : x.least.zero = true → x.least.K = 0 := fun hz => by
      have e := least_least (x := x) (by omega)
      unfold Nm.least at e
      have e2 : (if x.least.zero = true then nul else form x.least.K.toNat x.least) = x.least := e
      rw [if_pos hz] at e2
      rw [← e2]
    have HT : Hid (∀ w, Calls Tryz.prog 62 #[x.least.v] w (Gives (.string (printT x.least)) w)) := fun w => r_text _ w hl hz
    rw [if_pos h, h]
    rw [h] at HC
    clear h hk hl hz
    generalize printT x.least = T at *
    generalize x.least = r at *
    obtain ⟨A, B, C, D, K⟩ := x
    go_enter Tryz.func20, Tryz.ntmps20
    go_wp2_with fail
    refine (HC.out _).mono ?_
    rintro e w1 ⟨rfl, hb⟩
    obtain ⟨hc, hf⟩ := bcell hb
    have hw1 : Below w.heap.size w w1 := below_via hb (by repeat (first | with_reducible exact Below.refl _ _ | with_reducible refine below_al ?_ _ | with_reducible refine below_dN ?_ _ | with_reducible refine Below.drew ?_ | (with_reducible refine Below.setCell ?_ (by simp <;> omega) _) | (with_reducible refine below_via (by assumption) ?_)))
    go_wp2_with fail
    refine (HF.out _).mono ?_
    rintro e w2 ⟨rfl, hb2⟩
    go_wp2_with fail
    refine (HT.out _).mono ?_
    rintro e w3 ⟨rfl, hb3⟩
    go_wp2_with fail
    go_ret2
    exact ⟨rfl, below_via hb3 (below_via hb2 hw1)⟩
  · rw [if_neg h]
    have h2 : (x.chk != 0) = true := bne_iff_ne.2 h
    generalize x.chk = q at *
    obtain ⟨A, B, C, D, K⟩ := x
    go_enter Tryz.func20, Tryz.ntmps20
    go_wp2_with fail
    refine (HC.out _).mono ?_
    rintro e w1 ⟨rfl, hb⟩
    go_wp2_with fail
    go_ret2
    exact ⟨rfl, below_via hb (by repeat (first | with_reducible exact Below.refl _ _ | with_reducible refine below_al ?_ _ | with_reducible refine below_dN ?_ _ | with_reducible refine Below.drew ?_ | (with_reducible refine Below.setCell ?_ (by simp <;> omega) _) | (with_reducible refine below_via (by assumption) ?_)))⟩
end Go.Proofs.YtcdmcndjbajhlaaGreatDoor
