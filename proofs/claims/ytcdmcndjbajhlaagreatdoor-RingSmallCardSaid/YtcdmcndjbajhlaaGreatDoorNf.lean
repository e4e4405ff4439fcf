
/- Roots and powers, on both sides. -/
import Derived.Test.YtcdmcndjbajhlaaGreatDoorJe
import Derived.Test.YtcdmcndjbajhlaaGreatDoorJv
import Derived.Laws.EntriesVeiled
set_option linter.all false
set_option maxRecDepth 100000
namespace Go.Proofs.YtcdmcndjbajhlaaGreatDoor
open Go.RowKit

def rootP (k : Int) : Value := if 0 ≤ k ∧ k ≤ 60 then .tuple #[nv 1 0 0 0 k, .int .i64 0] else .tuple #[nul.v, .int .i64 3]
theorem least_root (k : Int) : Nm.least ⟨1, 0, 0, 0, k⟩ = ⟨1, 0, 0, 0, k⟩ := by
  unfold Nm.least
  rw [if_neg (by simp [Nm.zero])]
  exact form_stop (.inr (by simp [Nm.even]))
set_option maxHeartbeats 2000000 in
theorem r_Root (k : Int) (w : World) : Calls Tryz.prog 23 #[.int .i64 k] w (Gives (rootP k) w) := by
  unfold rootP
  by_cases h : 0 ≤ k ∧ k ≤ 60
  · rw [if_pos h]
    obtain ⟨h0, h1⟩ := h
    have HF : Hid (∀ w, Calls Tryz.prog 63 #[nv 1 0 0 0 k] w (Gives (nv 1 0 0 0 k) w)) := fun w => by
      have h := r_form ⟨1, 0, 0, 0, k⟩ w (by unfold Nm.wide; dsimp only; omega) (by dsimp only; omega)
      rw [least_root] at h
      exact h
    go_enter Tryz.func23, Tryz.ntmps23
    go_wp2_with fail
    refine (HF.out _).mono ?_
    rintro e w1 ⟨rfl, hb⟩
    have hw : Below w.heap.size w w1 := below_via hb (by repeat (first | with_reducible exact Below.refl _ _ | with_reducible refine below_al ?_ _ | with_reducible refine below_dN ?_ _ | with_reducible refine Below.drew ?_ | (with_reducible refine Below.setCell ?_ (by simp <;> omega) _) | (with_reducible refine below_via (by assumption) ?_)))
    have hz : Box w1 w.heap.size 23 nul := (box_new w 0 0 0 0 0 _).below hb (by simp)
    obtain ⟨z0, z1, z2, z3, z4⟩ := hz.cell
    obtain ⟨g0, g1, g2, g3, g4⟩ := hz.free
    have hltz := hz.lt
    dsimp only at z0 z1 z2 z3 z4
    clear hz hb
    go_wp2_with fail
    exact bodyPost_ret (v := .tuple #[nv 1 0 0 0 k, .int .i64 0]) (by simp [results, Tryz.results23, go_sem, z0, z1, z2, z3, z4]) rfl ⟨rfl, ((((hw.setCell (Nat.le_refl _) _).setCell (Nat.le_refl _) _).setCell (Nat.le_refl _) _).setCell (Nat.le_refl _) _).setCell (Nat.le_refl _) _⟩
  · rw [if_neg h]
    by_cases h0 : k < 0
    · go_enter Tryz.func23, Tryz.ntmps23
      go_wp2_with fail
      exact bodyPost_ret (v := .tuple #[nul.v, .int .i64 3]) (by simp [results, Tryz.results23, go_sem]) rfl ⟨rfl, (by repeat (first | with_reducible exact Below.refl _ _ | with_reducible refine below_al ?_ _ | with_reducible refine below_dN ?_ _ | with_reducible refine Below.drew ?_ | (with_reducible refine Below.setCell ?_ (by simp <;> omega) _) | (with_reducible refine below_via (by assumption) ?_)))⟩
    · have h1 : 60 < k := by omega
      go_enter Tryz.func23, Tryz.ntmps23
      go_wp2_with fail
      exact bodyPost_ret (v := .tuple #[nul.v, .int .i64 3]) (by simp [results, Tryz.results23, go_sem]) rfl ⟨rfl, (by repeat (first | with_reducible exact Below.refl _ _ | with_reducible refine below_al ?_ _ | with_reducible refine below_dN ?_ _ | with_reducible refine Below.drew ?_ | (with_reducible refine Below.setCell ?_ (by simp <;> omega) _) | (with_reducible refine below_via (by assumption) ?_)))⟩
set_option maxHeartbeats 2000000 in
theorem Root_any (k : Int) (w : World) : Calls Tryz.prog 26 #[.int .i64 k] w (Gives (rootP k) w) := by
  unfold rootP
  by_cases h : 0 ≤ k ∧ k ≤ 60
  · rw [if_pos h]
    obtain ⟨h0, h1⟩ := h
    go_enter Tryz.func26, Tryz.ntmps26
    go_wp2_with fail
    exact bodyPost_ret (v := .tuple #[nv 1 0 0 0 k, .int .i64 0]) (by simp [results, Tryz.results26, go_sem]) rfl ⟨rfl, (by repeat (first | with_reducible exact Below.refl _ _ | with_reducible refine below_al ?_ _ | with_reducible refine below_dN ?_ _ | with_reducible refine Below.drew ?_ | (with_reducible refine Below.setCell ?_ (by simp <;> omega) _) | (with_reducible refine below_via (by assumption) ?_)))⟩
  · rw [if_neg h]
    by_cases h0 : k < 0
    · go_enter Tryz.func26, Tryz.ntmps26
      go_wp2_with fail
      exact bodyPost_ret (v := .tuple #[nul.v, .int .i64 3]) (by simp [results, Tryz.results26, go_sem]) rfl ⟨rfl, (by repeat (first | with_reducible exact Below.refl _ _ | with_reducible refine below_al ?_ _ | with_reducible refine below_dN ?_ _ | with_reducible refine Below.drew ?_ | (with_reducible refine Below.setCell ?_ (by simp <;> omega) _) | (with_reducible refine below_via (by assumption) ?_)))⟩
    · have h1 : 60 < k := by omega
      go_enter Tryz.func26, Tryz.ntmps26
      go_wp2_with fail
      exact bodyPost_ret (v := .tuple #[nul.v, .int .i64 3]) (by simp [results, Tryz.results26, go_sem]) rfl ⟨rfl, (by repeat (first | with_reducible exact Below.refl _ _ | with_reducible refine below_al ?_ _ | with_reducible refine below_dN ?_ _ | with_reducible refine Below.drew ?_ | (with_reducible refine Below.setCell ?_ (by simp <;> omega) _) | (with_reducible refine below_via (by assumption) ?_)))⟩
/-- Powers, from the left to the right. -/
def powR (x : Nm) : Nat → Nm × Int
  | 0 => (⟨1, 0, 0, 0, 0⟩, 0)
  | n + 1 => if (powR x n).2 = 0 then (jointN (powR x n).1 x (mulN (powR x n).1 x), jointE (powR x n).1 x (mulN (powR x n).1 x)) else powR x n
theorem powR_stuck (x : Nm) {k : Nat} (h : (powR x k).2 ≠ 0) : ∀ m, powR x (k + m) = powR x k
  | 0 => rfl
  | m + 1 => by
    have ih := powR_stuck x h m
    rw [← Nat.add_assoc, powR, ih, if_neg h]
theorem powR_nul (x : Nm) : ∀ n, (powR x n).2 ≠ 0 → (powR x n).1 = nul
  | 0, h => absurd rfl h
  | n + 1, h => by
    rw [powR] at h ⊢
    split
    · rename_i h1
      rw [if_pos h1] at h
      exact joint_nul h
    · rename_i h1
      exact powR_nul x n h1
def powV (x : Nm) (n : Int) : Value := if x.chk = 0 then (if 0 ≤ n ∧ n ≤ 64 then .tuple #[(powR x n.toNat).1.v, .int .i64 (powR x n.toNat).2] else .tuple #[nul.v, .int .i64 3]) else .tuple #[nul.v, .int .i64 x.chk]
set_option maxHeartbeats 4000000 in
theorem pow_any (x : Nm) (b7 bx : Nat) (n : Nat) : ∀ (w : World), n ≤ 64 → b7 < w.heap.size → w.cell? ⟨b7, 0, none⟩ = some (.func (.func 69) #[] #[.pointer (some ⟨b7, 0, none⟩), .pointer (some ⟨bx, 0, none⟩)]) → Box w bx 23 x →
    Calls Tryz.prog 69 #[.int .i64 n, .pointer (some ⟨b7, 0, none⟩), .pointer (some ⟨bx, 0, none⟩)] w (Gives (.tuple #[(powR x n).1.v, .int .i64 (powR x n).2]) w) := by
  induction n with
  | zero =>
    intro w _ _ _ _
    have HO : Hid (∀ w, Calls Tryz.prog 29 #[.int .i64 0] w (Gives (nv 1 0 0 0 0) w)) := fun w => Omega_any 0 w
    go_enter Tryz.func69, Tryz.ntmps69
    go_wp2_with fail
    refine (HO.out _).mono ?_
    rintro e w1 ⟨rfl, hb⟩
    have hw : Below w.heap.size w w1 := below_via hb (by repeat (first | with_reducible exact Below.refl _ _ | with_reducible refine below_al ?_ _ | with_reducible refine below_dN ?_ _ | with_reducible refine Below.drew ?_ | (with_reducible refine Below.setCell ?_ (by simp <;> omega) _) | (with_reducible refine below_via (by assumption) ?_)))
    have hz : Box w1 w.heap.size 23 nul := (box_new w 0 0 0 0 0 _).below hb (by simp)
    obtain ⟨z0, z1, z2, z3, z4⟩ := hz.cell
    obtain ⟨g0, g1, g2, g3, g4⟩ := hz.free
    have hltz := hz.lt
    dsimp only at z0 z1 z2 z3 z4
    clear hz hb
    go_wp2_with fail
    exact bodyPost_ret (v := .tuple #[nv 1 0 0 0 0, .int .i64 0]) (by simp [results, Tryz.results69, go_sem, z0, z1, z2, z3, z4]) rfl ⟨rfl, by first | exact hw | exact ((((hw.setCell (Nat.le_refl _) _).setCell (Nat.le_refl _) _).setCell (Nat.le_refl _) _).setCell (Nat.le_refl _) _).setCell (Nat.le_refl _) _⟩
  | succ n ih =>
    intro w hn hb7 h7 hx
    have HI : Hid (∀ w, b7 < w.heap.size → w.cell? ⟨b7, 0, none⟩ = some (.func (.func 69) #[] #[.pointer (some ⟨b7, 0, none⟩), .pointer (some ⟨bx, 0, none⟩)]) → Box w bx 23 x →
      Calls Tryz.prog 69 #[.int .i64 n, .pointer (some ⟨b7, 0, none⟩), .pointer (some ⟨bx, 0, none⟩)] w (Gives (.tuple #[(powR x n).1.v, .int .i64 (powR x n).2]) w)) := fun w h1 h2 h3 => ih w (by omega) h1 h2 h3
    have e1 : ((n + 1 : Nat) : Int) = (n : Int) + 1 := by omega
    rw [e1]
    have hne : ((n : Int) + 1 == 0) = false := by rw [beq_eq_false_iff_ne]; omega
    obtain ⟨RV, hRV⟩ : ∃ RV, RV = powR x (n + 1) := ⟨_, rfl⟩
    rw [← hRV]
    have hst : RV = if (powR x n).2 = 0 then (jointN (powR x n).1 x (mulN (powR x n).1 x), jointE (powR x n).1 x (mulN (powR x n).1 x)) else powR x n := hRV
    have hnul := powR_nul x n
    have HM : Hid (∀ w, Calls Tryz.prog 32 #[(powR x n).1.v, x.v] w (Gives (.tuple #[(jointN (powR x n).1 x (mulN (powR x n).1 x)).v, .int .i64 (jointE (powR x n).1 x (mulN (powR x n).1 x))]) w)) := fun w => Mul_any _ _ _ _ _ x.A x.B x.C x.D x.K w
    generalize jointN (powR x n).1 x (mulN (powR x n).1 x) = r at *
    generalize jointE (powR x n).1 x (mulN (powR x n).1 x) = q at *
    generalize powR x n = p at *
    have hcell : (w.alloc (.cells #[.int .i64 0, .int .i64 0, .int .i64 0, .int .i64 0, .int .i64 0] 23)).cell? ⟨b7, 0, none⟩ = some (.func (.func 69) #[] #[.pointer (some ⟨b7, 0, none⟩), .pointer (some ⟨bx, 0, none⟩)]) :=
      ((bcell ((Below.refl w.heap.size w).alloc (Nat.le_refl _) _)).1 _ _ hb7).trans h7
    have hb7' : b7 < (w.alloc (.cells #[.int .i64 0, .int .i64 0, .int .i64 0, .int .i64 0, .int .i64 0] 23)).heap.size := by simp; omega
    have HX := Lib.hid (box_al hx (.cells #[.int .i64 0, .int .i64 0, .int .i64 0, .int .i64 0, .int .i64 0] 23))
    have HST := Lib.hid hst
    have HNUL := Lib.hid hnul
    clear hx ih hRV e1 hst hnul
    go_enter Tryz.func69, Tryz.ntmps69
    go_wp2_with fail
    refine (HI.out _ hb7' hcell HX.out).mono ?_
    rintro e w1 ⟨rfl, hb⟩
    have hw : Below w.heap.size w w1 := below_via hb (by repeat (first | with_reducible exact Below.refl _ _ | with_reducible refine below_al ?_ _ | with_reducible refine below_dN ?_ _ | with_reducible refine Below.drew ?_ | (with_reducible refine Below.setCell ?_ (by simp <;> omega) _) | (with_reducible refine below_via (by assumption) ?_)))
    have hz : Box w1 w.heap.size 23 nul := (box_new w 0 0 0 0 0 _).below hb (by simp)
    have hx1 := HX.out.below hb HX.out.lt
    obtain ⟨x0, x1, x2, x3, x4⟩ := hx1.cell
    have hltx := hx1.lt
    clear hcell hb7' HX HI
    have hst := HST.out
    have hnul := HNUL.out
    clear HST HNUL
    by_cases hp : p.2 = 0
    · rw [if_pos hp] at hst
      have HRR := Lib.hid hst
      rw [hp]
      clear hst
      have HZ := Lib.hid hz
      clear hz hnul hp hb
      go_wp2_with fail
      refine (HM.out _).mono ?_
      rintro e w2 ⟨rfl, hb2⟩
      have hz2 := (box_al HZ.out (.cells #[.int .i64 p.1.A, .int .i64 p.1.B, .int .i64 p.1.C, .int .i64 p.1.D, .int .i64 p.1.K] 23)).below hb2 (by simp; have := HZ.out.lt; omega)
      have hw' : Below w.heap.size w w2 := below_via hb2 (below_al hw _)
      clear hw
      have hw := hw'
      obtain ⟨z0, z1, z2, z3, z4⟩ := hz2.cell
      obtain ⟨g0, g1, g2, g3, g4⟩ := hz2.free
      have hltz := hz2.lt
      dsimp only at z0 z1 z2 z3 z4
      clear hz2 hb2 x0 x1 x2 x3 x4 hltx
      go_wp2_with fail
      rw [HRR.out]
      exact bodyPost_ret (v := .tuple #[r.v, .int .i64 q]) (by simp [results, Tryz.results69, go_sem, z0, z1, z2, z3, z4]) rfl ⟨rfl, by first | exact hw | exact ((((hw.setCell (Nat.le_refl _) _).setCell (Nat.le_refl _) _).setCell (Nat.le_refl _) _).setCell (Nat.le_refl _) _).setCell (Nat.le_refl _) _⟩
    · rw [if_neg hp] at hst
      have HRR := Lib.hid hst
      clear hst
      have hq : (p.2 != 0) = true := bne_iff_ne.2 hp
      have hn1 := hnul hp
      obtain ⟨R1, R2⟩ := p
      dsimp only at hn1 hq
      subst hn1
      have hz2 := box_al hz (.cells #[.int .i64 0, .int .i64 0, .int .i64 0, .int .i64 0, .int .i64 0] 23)
      obtain ⟨z0, z1, z2, z3, z4⟩ := hz.cell
      obtain ⟨g0, g1, g2, g3, g4⟩ := hz.free
      have hltz := hz.lt
      dsimp only at z0 z1 z2 z3 z4
      clear hz hz2 hb hnul hp x0 x1 x2 x3 x4 hltx
      go_wp2_with fail
      rw [HRR.out]
      exact bodyPost_ret (v := .tuple #[nul.v, .int .i64 R2]) (by simp [results, Tryz.results69, go_sem, z0, z1, z2, z3, z4, hltz]) rfl ⟨rfl, by first | exact below_al hw _ | exact below_al (((((hw.setCell (Nat.le_refl _) _).setCell (Nat.le_refl _) _).setCell (Nat.le_refl _) _).setCell (Nat.le_refl _) _).setCell (Nat.le_refl _) _) _⟩
end Go.Proofs.YtcdmcndjbajhlaaGreatDoor
