
/- Power, on both sides. -/
import Derived.Test.YtcdmcndjbajhlaaGreatDoorNf
set_option linter.all false
set_option maxRecDepth 100000
namespace Go.Proofs.YtcdmcndjbajhlaaGreatDoor
open Go.RowKit

set_option maxHeartbeats 4000000 in
theorem Power_any (x : Nm) (n : Int) (w : World) : Calls Tryz.prog 27 #[x.v, .int .i64 n] w (Gives (powV x n) w) := by
  have HC : Hid (∀ w, Calls Tryz.prog 15 #[x.v] w (Gives (.int .i64 x.chk) w)) := fun w => check_any _ _ _ _ _ w
  have hbx : Box ((w.alloc (.cells #[.int .i64 x.A, .int .i64 x.B, .int .i64 x.C, .int .i64 x.D, .int .i64 x.K] 23)).alloc (.cells #[.int .i64 0, .int .i64 0, .int .i64 0, .int .i64 0, .int .i64 0] 23)) w.heap.size 23 x := box_al (box_new w _ _ _ _ _ _) _
  have hbz : Box ((w.alloc (.cells #[.int .i64 x.A, .int .i64 x.B, .int .i64 x.C, .int .i64 x.D, .int .i64 x.K] 23)).alloc (.cells #[.int .i64 0, .int .i64 0, .int .i64 0, .int .i64 0, .int .i64 0] 23)) (w.heap.size + 1) 23 nul := by
    have h := box_new (w.alloc (.cells #[.int .i64 x.A, .int .i64 x.B, .int .i64 x.C, .int .i64 x.D, .int .i64 x.K] 23)) 0 0 0 0 0 23
    rw [World.size_alloc] at h
    exact h
  have HBX := Lib.hid hbx
  have HBZ := Lib.hid hbz
  clear hbx hbz
  unfold powV
  by_cases h : x.chk = 0
  · rw [if_pos h]
    rw [h] at HC
    clear h
    by_cases hn : 0 ≤ n ∧ n ≤ 64
    · rw [if_pos hn]
      obtain ⟨m, rfl⟩ : ∃ m : Nat, n = m := ⟨n.toNat, by omega⟩
      have e : ((m : Nat) : Int).toNat = m := by omega
      rw [e]
      have hm : m ≤ 64 := by omega
      have HP : Hid (∀ (b7 bx : Nat) w, b7 < w.heap.size → w.cell? ⟨b7, 0, none⟩ = some (.func (.func 69) #[] #[.pointer (some ⟨b7, 0, none⟩), .pointer (some ⟨bx, 0, none⟩)]) → Box w bx 23 x →
        Calls Tryz.prog 69 #[.int .i64 m, .pointer (some ⟨b7, 0, none⟩), .pointer (some ⟨bx, 0, none⟩)] w (Gives (.tuple #[(powR x m).1.v, .int .i64 (powR x m).2]) w)) := fun b7 bx w h1 h2 h3 => pow_any x b7 bx m w hm h1 h2 h3
      generalize powR x m = R at *
      clear hn e
      go_enter Tryz.func27, Tryz.ntmps27
      go_wp2_with fail
      refine (HC.out _).mono ?_
      rintro e w1 ⟨rfl, hb⟩
      have hw : Below w.heap.size w w1 := below_via hb (by repeat (first | with_reducible exact Below.refl _ _ | with_reducible refine below_al ?_ _ | with_reducible refine below_dN ?_ _ | with_reducible refine Below.drew ?_ | (with_reducible refine Below.setCell ?_ (by simp <;> omega) _) | (with_reducible refine below_via (by assumption) ?_)))
      have hx1 := HBX.out.below hb HBX.out.lt
      have hz1 := HBZ.out.below hb HBZ.out.lt
      have HX1 := Lib.hid hx1
      have HZ1 := Lib.hid hz1
      clear hx1 hz1 hb HBX HBZ HC
      go_wp2_with fail
      have h7 : (w1.alloc (.cells #[.func (.func 69) #[] #[.pointer (some ⟨w1.heap.size, 0, none⟩), .pointer (some ⟨w.heap.size, 0, none⟩)]] 49)).cell? ⟨w1.heap.size, 0, none⟩ = some (.func (.func 69) #[] #[.pointer (some ⟨w1.heap.size, 0, none⟩), .pointer (some ⟨w.heap.size, 0, none⟩)]) := by
        unfold World.cell?
        dsimp only
        rw [heap_alloc_new]
        rfl
      refine (HP.out _ _ _ (by simp) h7 (box_al HX1.out _)).mono ?_
      rintro e w2 ⟨rfl, hb2⟩
      have hw2 := below_via hb2 (below_al hw _)
      have hz2 := (box_al HZ1.out (.cells #[.func (.func 69) #[] #[.pointer (some ⟨w1.heap.size, 0, none⟩), .pointer (some ⟨w.heap.size, 0, none⟩)]] 49)).below hb2 (by simp; have := HZ1.out.lt; omega)
      clear h7 HP hb2 hw
      obtain ⟨z0, z1, z2, z3, z4⟩ := hz2.cell
      obtain ⟨g0, g1, g2, g3, g4⟩ := hz2.free
      have hltz := hz2.lt
      dsimp only at z0 z1 z2 z3 z4
      clear hz2
      go_wp2_with fail
      exact bodyPost_ret (v := .tuple #[R.1.v, .int .i64 R.2]) (by simp [results, Tryz.results27, go_sem, z0, z1, z2, z3, z4]) rfl ⟨rfl, by first | exact hw2 | exact ((((hw2.setCell (Nat.le_succ _) _).setCell (Nat.le_succ _) _).setCell (Nat.le_succ _) _).setCell (Nat.le_succ _) _).setCell (Nat.le_succ _) _⟩
    · rw [if_neg hn]
      by_cases h0 : n < 0
      · clear hn
        go_enter Tryz.func27, Tryz.ntmps27
        go_wp2_with fail
        refine (HC.out _).mono ?_
        rintro e w1 ⟨rfl, hb⟩
        have hw2 : Below w.heap.size w w1 := below_via hb (by repeat (first | with_reducible exact Below.refl _ _ | with_reducible refine below_al ?_ _ | with_reducible refine below_dN ?_ _ | with_reducible refine Below.drew ?_ | (with_reducible refine Below.setCell ?_ (by simp <;> omega) _) | (with_reducible refine below_via (by assumption) ?_)))
        have hz1 := HBZ.out.below hb HBZ.out.lt
        clear hb HBX HBZ HC
        obtain ⟨z0, z1, z2, z3, z4⟩ := hz1.cell
        obtain ⟨g0, g1, g2, g3, g4⟩ := hz1.free
        have hltz := hz1.lt
        dsimp only at z0 z1 z2 z3 z4
        clear hz1
        go_wp2_with fail
        exact bodyPost_ret (v := .tuple #[nul.v, .int .i64 3]) (by simp [results, Tryz.results27, go_sem, z0, z1, z2, z3, z4]) rfl ⟨rfl, by first | exact hw2 | exact ((((hw2.setCell (Nat.le_succ _) _).setCell (Nat.le_succ _) _).setCell (Nat.le_succ _) _).setCell (Nat.le_succ _) _).setCell (Nat.le_succ _) _⟩
      · have h1 : 64 < n := by omega
        clear hn
        go_enter Tryz.func27, Tryz.ntmps27
        go_wp2_with fail
        refine (HC.out _).mono ?_
        rintro e w1 ⟨rfl, hb⟩
        have hw2 : Below w.heap.size w w1 := below_via hb (by repeat (first | with_reducible exact Below.refl _ _ | with_reducible refine below_al ?_ _ | with_reducible refine below_dN ?_ _ | with_reducible refine Below.drew ?_ | (with_reducible refine Below.setCell ?_ (by simp <;> omega) _) | (with_reducible refine below_via (by assumption) ?_)))
        have hz1 := HBZ.out.below hb HBZ.out.lt
        clear hb HBX HBZ HC
        obtain ⟨z0, z1, z2, z3, z4⟩ := hz1.cell
        obtain ⟨g0, g1, g2, g3, g4⟩ := hz1.free
        have hltz := hz1.lt
        dsimp only at z0 z1 z2 z3 z4
        clear hz1
        go_wp2_with fail
        exact bodyPost_ret (v := .tuple #[nul.v, .int .i64 3]) (by simp [results, Tryz.results27, go_sem, z0, z1, z2, z3, z4]) rfl ⟨rfl, by first | exact hw2 | exact ((((hw2.setCell (Nat.le_succ _) _).setCell (Nat.le_succ _) _).setCell (Nat.le_succ _) _).setCell (Nat.le_succ _) _).setCell (Nat.le_succ _) _⟩
  · rw [if_neg h]
    have hq : (x.chk != 0) = true := bne_iff_ne.2 h
    generalize x.chk = q at *
    clear h
    go_enter Tryz.func27, Tryz.ntmps27
    go_wp2_with fail
    refine (HC.out _).mono ?_
    rintro e w1 ⟨rfl, hb⟩
    have hw2 : Below w.heap.size w w1 := below_via hb (by repeat (first | with_reducible exact Below.refl _ _ | with_reducible refine below_al ?_ _ | with_reducible refine below_dN ?_ _ | with_reducible refine Below.drew ?_ | (with_reducible refine Below.setCell ?_ (by simp <;> omega) _) | (with_reducible refine below_via (by assumption) ?_)))
    have hz1 := HBZ.out.below hb HBZ.out.lt
    clear hb HBX HBZ HC
    obtain ⟨z0, z1, z2, z3, z4⟩ := hz1.cell
    obtain ⟨g0, g1, g2, g3, g4⟩ := hz1.free
    have hltz := hz1.lt
    dsimp only at z0 z1 z2 z3 z4
    clear hz1
    go_wp2_with fail
    exact bodyPost_ret (v := .tuple #[nul.v, .int .i64 q]) (by simp [results, Tryz.results27, go_sem, z0, z1, z2, z3, z4]) rfl ⟨rfl, by first | exact hw2 | exact ((((hw2.setCell (Nat.le_succ _) _).setCell (Nat.le_succ _) _).setCell (Nat.le_succ _) _).setCell (Nat.le_succ _) _).setCell (Nat.le_succ _) _⟩
/-- The blocks of the reference's Power: the number, the result, the power so far. -/
def InPow (w : World) (bo : Nat) (x p : Nm) (W : World) : Prop := Below w.heap.size w W ∧ Box W w.heap.size 23 x ∧ Box W (w.heap.size + 1) 23 nul ∧ Box W bo 23 p ∧ w.heap.size + 1 < bo
theorem InPow.call {w W W' : World} {bo : Nat} {x p : Nm} (h : InPow w bo x p W) (hb : Below W.heap.size W W') : InPow w bo x p W' :=
  ⟨below_via hb h.1, h.2.1.below hb h.2.1.lt, h.2.2.1.below hb h.2.2.1.lt, h.2.2.2.1.below hb h.2.2.2.1.lt, h.2.2.2.2⟩
theorem InPow.put {w W : World} {bo : Nat} {x p : Nm} (h : InPow w bo x p W) (r : Nm) : InPow w bo x r (((((W.setCell ⟨bo, 0, none⟩ (.int .i64 r.A)).setCell ⟨bo, 1, none⟩ (.int .i64 r.B)).setCell ⟨bo, 2, none⟩ (.int .i64 r.C)).setCell ⟨bo, 3, none⟩ (.int .i64 r.D)).setCell ⟨bo, 4, none⟩ (.int .i64 r.K)) := by
  obtain ⟨h1, h2, h3, h4, h5⟩ := h
  have hle : w.heap.size ≤ bo := by omega
  have hne : w.heap.size ≠ bo := by omega
  have hne2 : w.heap.size + 1 ≠ bo := by omega
  exact ⟨((((h1.setCell hle _).setCell hle _).setCell hle _).setCell hle _).setCell hle _, ((((h2.other hne).other hne).other hne).other hne).other hne, ((((h3.other hne2).other hne2).other hne2).other hne2).other hne2, box_cells h4 r, h5⟩
set_option maxHeartbeats 4000000 in
theorem r_Power (x : Nm) (n : Int) (w : World) : Calls Tryz.prog 24 #[x.v, .int .i64 n] w (Gives (powV x n) w) := by
  have HC : Hid (∀ w, Calls Tryz.prog 41 #[x.v] w (Gives (.int .i64 x.chk) w)) := fun w => r_check _ _ _ _ _ w
  have hbx : Box ((w.alloc (.cells #[.int .i64 x.A, .int .i64 x.B, .int .i64 x.C, .int .i64 x.D, .int .i64 x.K] 23)).alloc (.cells #[.int .i64 0, .int .i64 0, .int .i64 0, .int .i64 0, .int .i64 0] 23)) w.heap.size 23 x := box_al (box_new w _ _ _ _ _ _) _
  have hbz : Box ((w.alloc (.cells #[.int .i64 x.A, .int .i64 x.B, .int .i64 x.C, .int .i64 x.D, .int .i64 x.K] 23)).alloc (.cells #[.int .i64 0, .int .i64 0, .int .i64 0, .int .i64 0, .int .i64 0] 23)) (w.heap.size + 1) 23 nul := by
    have h := box_new (w.alloc (.cells #[.int .i64 x.A, .int .i64 x.B, .int .i64 x.C, .int .i64 x.D, .int .i64 x.K] 23)) 0 0 0 0 0 23
    rw [World.size_alloc] at h
    exact h
  have HBX := Lib.hid hbx
  have HBZ := Lib.hid hbz
  clear hbx hbz
  unfold powV
  by_cases h : x.chk = 0
  · rw [if_pos h]
    rw [h] at HC
    clear h
    by_cases hn : 0 ≤ n ∧ n ≤ 64
    · rw [if_pos hn]
      obtain ⟨m, rfl⟩ : ∃ m : Nat, n = m := ⟨n.toNat, by omega⟩
      have e : ((m : Nat) : Int).toNat = m := by omega
      rw [e]
      have hm : m ≤ 64 := by omega
      have HM : Hid (∀ (p : Nm) w, Calls Tryz.prog 44 #[p.v, x.v] w (Gives (.tuple #[(jointN p x (mulN p x)).v, .int .i64 (jointE p x (mulN p x))]) w)) := fun p w => r_Mul p x w
      obtain ⟨R, hR⟩ : ∃ R, R = powR x m := ⟨_, rfl⟩
      rw [← hR]
      have HR := Lib.hid hR
      clear hn e hR
      go_enter Tryz.func24, Tryz.ntmps24
      go_wp2_with fail
      refine (HC.out _).mono ?_
      rintro e w1 ⟨rfl, hb⟩
      have hw : Below w.heap.size w w1 := below_via hb (by repeat (first | with_reducible exact Below.refl _ _ | with_reducible refine below_al ?_ _ | with_reducible refine below_dN ?_ _ | with_reducible refine Below.drew ?_ | (with_reducible refine Below.setCell ?_ (by simp <;> omega) _) | (with_reducible refine below_via (by assumption) ?_)))
      have hx1 := HBX.out.below hb HBX.out.lt
      have hz1 := HBZ.out.below hb HBZ.out.lt
      have HI : Hid (InPow w w1.heap.size x ⟨1, 0, 0, 0, 0⟩ (w1.alloc (.cells #[.int .i64 1, .int .i64 0, .int .i64 0, .int .i64 0, .int .i64 0] 23))) :=
        ⟨below_al hw _, box_al hx1 _, box_al hz1 _, box_new w1 1 0 0 0 0 _, hz1.lt⟩
      clear hx1 hz1 hb HBX HBZ HC hw
      go_wp2_with fail
      generalize w1.heap.size = bo at HI ⊢
      go_loopw [8, 9] (fun e i wr => ∃ (k : Nat) (p : Nm) (q : Int), k ≤ m ∧ i = .int .i64 k ∧ e = .int .i64 q ∧ Hid (InPow w bo x p wr) ∧ Hid (powR x k = (p, q))) (fun _ i _ => m - (intOf i).toNat)
      case atStart => exact ⟨0, ⟨1, 0, 0, 0, 0⟩, 0, by omega, rfl, rfl, HI.out, rfl⟩
      case round =>
        obtain ⟨k, p, q, hk, rfl, rfl, HI, HK⟩ := hrel
        obtain ⟨z0, z1, z2, z3, z4⟩ := HI.out.2.2.1.cell
        obtain ⟨g0, g1, g2, g3, g4⟩ := HI.out.2.2.1.free
        obtain ⟨x0, x1, x2, x3, x4⟩ := HI.out.2.1.cell
        obtain ⟨s0, s1, s2, s3, s4⟩ := HI.out.2.2.2.1.cell
        have hltz := HI.out.2.2.1.lt
        have hltx := HI.out.2.1.lt
        have hlts := HI.out.2.2.2.1.lt
        have hw2 := HI.out.1
        dsimp only at z0 z1 z2 z3 z4
        by_cases hq : q = 0
        · subst hq
          by_cases hlt : k < m
          · have hst : powR x (k + 1) = (jointN p x (mulN p x), jointE p x (mulN p x)) := by
              rw [powR, HK.out, if_pos rfl]
            have HMp := Lib.hid (HM.out p)
            generalize jointN p x (mulN p x) = r at *
            generalize jointE p x (mulN p x) = u at *
            have HS := Lib.hid hst
            clear hst HK z0 z1 z2 z3 z4 g0 g1 g2 g3 g4
            go_wp2_with fail
            refine (HMp.out _).mono ?_
            rintro e w2 ⟨rfl, hb2⟩
            have HI2 := Lib.hid (HI.out.call hb2)
            clear x0 x1 x2 x3 x4 s0 s1 s2 s3 s4 hltz hltx hlts hw2 hb2 HI
            obtain ⟨s0, s1, s2, s3, s4⟩ := HI2.out.2.2.2.1.cell
            obtain ⟨f0, f1, f2, f3, f4⟩ := HI2.out.2.2.2.1.free
            have hlts := HI2.out.2.2.2.1.lt
            go_wp2_with fail
            have hin := HI2.out.put r
            go_roundw
            case rel => exact ⟨k + 1, r, u, by omega, by go_num, rfl, hin, HS.out⟩
            case measure => simp [intOf]; omega
          · have : k = m := by omega
            subst this
            have hre : R = (p, 0) := HR.out.trans HK.out
            have HRE := Lib.hid hre
            have hkk : ¬ ((k : Int) < k) := by omega
            clear hre HK HR
            go_wp2_with fail
            rw [HRE.out]
            exact bodyPost_ret (v := .tuple #[p.v, .int .i64 0]) (by simp [results, Tryz.results24, go_sem, z0, z1, z2, z3, z4]) rfl ⟨rfl, by first | exact hw2 | exact ((((hw2.setCell (Nat.le_succ _) _).setCell (Nat.le_succ _) _).setCell (Nat.le_succ _) _).setCell (Nat.le_succ _) _).setCell (Nat.le_succ _) _⟩
        · have hre : R = (p, q) := by
            rw [HR.out]
            have h := powR_stuck x (k := k) (by rw [HK.out]; exact hq) (m - k)
            rw [show k + (m - k) = m by omega] at h
            rw [h, HK.out]
          have HRE := Lib.hid hre
          have hq2 : (q == 0) = false := beq_eq_false_iff_ne.2 hq
          clear hre HK HR
          by_cases hlt : k < m
          · go_wp2_with fail
            rw [HRE.out]
            exact bodyPost_ret (v := .tuple #[p.v, .int .i64 q]) (by simp [results, Tryz.results24, go_sem, z0, z1, z2, z3, z4]) rfl ⟨rfl, by first | exact hw2 | exact ((((hw2.setCell (Nat.le_succ _) _).setCell (Nat.le_succ _) _).setCell (Nat.le_succ _) _).setCell (Nat.le_succ _) _).setCell (Nat.le_succ _) _⟩
          · go_wp2_with fail
            rw [HRE.out]
            exact bodyPost_ret (v := .tuple #[p.v, .int .i64 q]) (by simp [results, Tryz.results24, go_sem, z0, z1, z2, z3, z4]) rfl ⟨rfl, by first | exact hw2 | exact ((((hw2.setCell (Nat.le_succ _) _).setCell (Nat.le_succ _) _).setCell (Nat.le_succ _) _).setCell (Nat.le_succ _) _).setCell (Nat.le_succ _) _⟩
    · rw [if_neg hn]
      by_cases h0 : n < 0
      · clear hn
        go_enter Tryz.func24, Tryz.ntmps24
        go_wp2_with fail
        refine (HC.out _).mono ?_
        rintro e w1 ⟨rfl, hb⟩
        have hw2 : Below w.heap.size w w1 := below_via hb (by repeat (first | with_reducible exact Below.refl _ _ | with_reducible refine below_al ?_ _ | with_reducible refine below_dN ?_ _ | with_reducible refine Below.drew ?_ | (with_reducible refine Below.setCell ?_ (by simp <;> omega) _) | (with_reducible refine below_via (by assumption) ?_)))
        have hz1 := HBZ.out.below hb HBZ.out.lt
        clear hb HBX HBZ HC
        obtain ⟨z0, z1, z2, z3, z4⟩ := hz1.cell
        obtain ⟨g0, g1, g2, g3, g4⟩ := hz1.free
        have hltz := hz1.lt
        dsimp only at z0 z1 z2 z3 z4
        clear hz1
        go_wp2_with fail
        exact bodyPost_ret (v := .tuple #[nul.v, .int .i64 3]) (by simp [results, Tryz.results24, go_sem, z0, z1, z2, z3, z4]) rfl ⟨rfl, by first | exact hw2 | exact ((((hw2.setCell (Nat.le_succ _) _).setCell (Nat.le_succ _) _).setCell (Nat.le_succ _) _).setCell (Nat.le_succ _) _).setCell (Nat.le_succ _) _⟩
      · have h1 : 64 < n := by omega
        clear hn
        go_enter Tryz.func24, Tryz.ntmps24
        go_wp2_with fail
        refine (HC.out _).mono ?_
        rintro e w1 ⟨rfl, hb⟩
        have hw2 : Below w.heap.size w w1 := below_via hb (by repeat (first | with_reducible exact Below.refl _ _ | with_reducible refine below_al ?_ _ | with_reducible refine below_dN ?_ _ | with_reducible refine Below.drew ?_ | (with_reducible refine Below.setCell ?_ (by simp <;> omega) _) | (with_reducible refine below_via (by assumption) ?_)))
        have hz1 := HBZ.out.below hb HBZ.out.lt
        clear hb HBX HBZ HC
        obtain ⟨z0, z1, z2, z3, z4⟩ := hz1.cell
        obtain ⟨g0, g1, g2, g3, g4⟩ := hz1.free
        have hltz := hz1.lt
        dsimp only at z0 z1 z2 z3 z4
        clear hz1
        go_wp2_with fail
        exact bodyPost_ret (v := .tuple #[nul.v, .int .i64 3]) (by simp [results, Tryz.results24, go_sem, z0, z1, z2, z3, z4]) rfl ⟨rfl, by first | exact hw2 | exact ((((hw2.setCell (Nat.le_succ _) _).setCell (Nat.le_succ _) _).setCell (Nat.le_succ _) _).setCell (Nat.le_succ _) _).setCell (Nat.le_succ _) _⟩
  · rw [if_neg h]
    have hq : (x.chk != 0) = true := bne_iff_ne.2 h
    generalize x.chk = q at *
    clear h
    go_enter Tryz.func24, Tryz.ntmps24
    go_wp2_with fail
    refine (HC.out _).mono ?_
    rintro e w1 ⟨rfl, hb⟩
    have hw2 : Below w.heap.size w w1 := below_via hb (by repeat (first | with_reducible exact Below.refl _ _ | with_reducible refine below_al ?_ _ | with_reducible refine below_dN ?_ _ | with_reducible refine Below.drew ?_ | (with_reducible refine Below.setCell ?_ (by simp <;> omega) _) | (with_reducible refine below_via (by assumption) ?_)))
    have hz1 := HBZ.out.below hb HBZ.out.lt
    clear hb HBX HBZ HC
    obtain ⟨z0, z1, z2, z3, z4⟩ := hz1.cell
    obtain ⟨g0, g1, g2, g3, g4⟩ := hz1.free
    have hltz := hz1.lt
    dsimp only at z0 z1 z2 z3 z4
    clear hz1
    go_wp2_with fail
    exact bodyPost_ret (v := .tuple #[nul.v, .int .i64 q]) (by simp [results, Tryz.results24, go_sem, z0, z1, z2, z3, z4]) rfl ⟨rfl, by first | exact hw2 | exact ((((hw2.setCell (Nat.le_succ _) _).setCell (Nat.le_succ _) _).setCell (Nat.le_succ _) _).setCell (Nat.le_succ _) _).setCell (Nat.le_succ _) _⟩
end Go.Proofs.YtcdmcndjbajhlaaGreatDoor
