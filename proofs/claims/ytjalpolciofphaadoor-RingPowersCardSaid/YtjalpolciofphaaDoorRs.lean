
/- The reference's Checks of two numbers, Least, Equal, Same. -/
import Derived.Test.YtjalpolciofphaaDoorRm
import Derived.Test.YtjalpolciofphaaDoorSb
import Derived.Test.YtjalpolciofphaaDoorWe
set_option linter.all false
set_option maxRecDepth 100000
namespace Go.Proofs.YtjalpolciofphaaDoor
open Go.RowKit

/-- A row of two numbers. -/
def Two (w : World) (b T : Nat) (x y : Nm) : Prop := w.heap[b]? = some (.cells #[.int .i64 x.A, .int .i64 x.B, .int .i64 x.C, .int .i64 x.D, .int .i64 x.K, .int .i64 y.A, .int .i64 y.B, .int .i64 y.C, .int .i64 y.D, .int .i64 y.K] T (0, 0))
theorem Two.cell {w : World} {b T : Nat} {x y : Nm} (h : Two w b T x y) :
    (w.cell? ⟨b, 0, none⟩ = some (.int .i64 x.A) ∧ w.cell? ⟨b, 1, none⟩ = some (.int .i64 x.B) ∧ w.cell? ⟨b, 2, none⟩ = some (.int .i64 x.C) ∧ w.cell? ⟨b, 3, none⟩ = some (.int .i64 x.D) ∧ w.cell? ⟨b, 4, none⟩ = some (.int .i64 x.K)) ∧
    (w.cell? ⟨b, 5, none⟩ = some (.int .i64 y.A) ∧ w.cell? ⟨b, 6, none⟩ = some (.int .i64 y.B) ∧ w.cell? ⟨b, 7, none⟩ = some (.int .i64 y.C) ∧ w.cell? ⟨b, 8, none⟩ = some (.int .i64 y.D) ∧ w.cell? ⟨b, 9, none⟩ = some (.int .i64 y.K)) := by
  unfold Two at h
  simp [World.cell?, h]
theorem Two.below {w w' : World} {b B T : Nat} {x y : Nm} (h : Two w b T x y) (ho : Below B w w') (hn : b < B) : Two w' b T x y := by
  unfold Two; rw [ho.block b hn]; exact h
theorem Two.lt {w : World} {b T : Nat} {x y : Nm} (h : Two w b T x y) : b < w.heap.size := by
  rcases Nat.lt_or_ge b w.heap.size with h' | h'
  · exact h'
  · simp [Two, Array.getElem?_eq_none h'] at h

set_option maxHeartbeats 4000000 in
theorem r_checks2 (x y : Nm) (b T : Nat) (w : World) (hb : Two w b T x y) :
    Calls Tryd.prog 35 #[.slice (some ⟨b, 0, none⟩) 2 2] w (Gives (.int .i64 (chk2 x y)) w) := by
  have HX : Hid (∀ w, Calls Tryd.prog 49 #[nv x.A x.B x.C x.D x.K] w (Gives (.int .i64 x.chk) w)) := fun w => r_check _ _ _ _ _ w
  have HY : Hid (∀ w, Calls Tryd.prog 49 #[nv y.A y.B y.C y.D y.K] w (Gives (.int .i64 y.chk) w)) := fun w => r_check _ _ _ _ _ w
  have hR : chk2 x y = if x.chk = 0 then y.chk else x.chk := rfl
  have HB := Lib.hid hb
  clear hb
  by_cases hx : x.chk = 0
  · rw [hR, if_pos hx]
    rw [hx] at HX
    by_cases hy : y.chk = 0
    · rw [hy] at HY
      rw [hy]
      clear hR hx hy
      go_enter Tryd.func35, Tryd.ntmps35
      go_wp2
      go_loopw [3] (fun i wr => ∃ k : Nat, k ≤ 2 ∧ i = .int .i64 k ∧ Below w.heap.size w wr) (fun i _ => 2 - (intOf i).toNat)
      case atStart => exact ⟨0, by omega, rfl, Below.refl _ _⟩
      case round =>
        obtain ⟨k, hk, rfl, hwr⟩ := hrel
        obtain ⟨⟨c0, c1, c2, c3, c4⟩, d0, d1, d2, d3, d4⟩ := (HB.out.below hwr HB.out.lt).cell
        have hk3 : k = 0 ∨ k = 1 ∨ k = 2 := by omega
        rcases hk3 with rfl | rfl | rfl
        · go_wp2_with (go_at_call 49; (with_reducible refine (HX.out _).mono ?_); rintro e w1 ⟨rfl, hb⟩)
          go_roundw
          case rel => exact ⟨1, by omega, by go_num, below_via hb hwr⟩
          case measure => simp [intOf]
        · go_wp2_with (go_at_call 49; (with_reducible refine (HY.out _).mono ?_); rintro e w1 ⟨rfl, hb⟩)
          go_roundw
          case rel => exact ⟨2, by omega, by go_num, below_via hb hwr⟩
          case measure => simp [intOf]
        · go_wp2_with fail
          go_ret
          exact ⟨rfl, hwr⟩
    · have hy2 : (y.chk != 0) = true := bne_iff_ne.2 hy
      generalize y.chk = q at *
      clear hR hx hy
      go_enter Tryd.func35, Tryd.ntmps35
      go_wp2
      go_loopw [3] (fun i wr => ∃ k : Nat, k ≤ 1 ∧ i = .int .i64 k ∧ Below w.heap.size w wr) (fun i _ => 2 - (intOf i).toNat)
      case atStart => exact ⟨0, by omega, rfl, Below.refl _ _⟩
      case round =>
        obtain ⟨k, hk, rfl, hwr⟩ := hrel
        obtain ⟨⟨c0, c1, c2, c3, c4⟩, d0, d1, d2, d3, d4⟩ := (HB.out.below hwr HB.out.lt).cell
        have hk3 : k = 0 ∨ k = 1 := by omega
        rcases hk3 with rfl | rfl
        · go_wp2_with (go_at_call 49; (with_reducible refine (HX.out _).mono ?_); rintro e w1 ⟨rfl, hb⟩)
          go_roundw
          case rel => exact ⟨1, by omega, by go_num, below_via hb hwr⟩
          case measure => simp [intOf]
        · go_wp2_with (go_at_call 49; (with_reducible refine (HY.out _).mono ?_); rintro e w1 ⟨rfl, hb⟩)
          go_ret
          exact ⟨rfl, below_via hb hwr⟩
  · rw [hR, if_neg hx]
    have hx2 : (x.chk != 0) = true := bne_iff_ne.2 hx
    generalize x.chk = q at *
    clear hR hx
    obtain ⟨⟨c0, c1, c2, c3, c4⟩, _⟩ := HB.out.cell
    go_enter Tryd.func35, Tryd.ntmps35
    go_wp2
    go_loopw [3] (fun i wr => i = .int .i64 0 ∧ wr = w) (fun i _ => 2 - (intOf i).toNat)
    case atStart => exact ⟨rfl, rfl⟩
    case round =>
      obtain ⟨rfl, rfl⟩ := hrel
      go_wp2_with (go_at_call 49; (with_reducible refine (HX.out _).mono ?_); rintro e w1 ⟨rfl, hb⟩)
      go_ret
      exact ⟨rfl, hb⟩

/-- Within a region: both numbers lie where they lay, and nothing below has changed. -/
def InTwo (w : World) (bx by_ : Nat) (x y : Nm) (W : World) : Prop := Below w.heap.size w W ∧ Box W bx 23 x ∧ Box W by_ 23 y
theorem InTwo.call {w W W' : World} {bx by_ : Nat} {x y : Nm} (h : InTwo w bx by_ x y W) (hb : Below W.heap.size W W') : InTwo w bx by_ x y W' :=
  ⟨below_via hb h.1, h.2.1.below hb h.2.1.lt, h.2.2.below hb h.2.2.lt⟩

set_option maxHeartbeats 2000000 in
theorem r_equal (x y : Nm) (w : World) (hx : x.wide) (hy : y.wide) (hK : -1000 ≤ x.K ∧ x.K ≤ 1000) (hk : -1000 ≤ y.K ∧ y.K ≤ 1000) :
    Calls Tryd.prog 66 #[x.v, y.v] w (Gives (.bool (eq5 x.least y.least)) w) := by
  have HX : Hid (∀ w, Calls Tryd.prog 36 #[x.v] w (Gives x.least.v w)) := fun w => r_form x w hx hK
  have HY : Hid (∀ w, Calls Tryd.prog 36 #[y.v] w (Gives y.least.v w)) := fun w => r_form y w hy hk
  clear hx hy hK hk
  generalize x.least = r at *
  generalize y.least = s at *
  have hC : InTwo w w.heap.size (w.heap.size + 1) x y ((w.alloc (.cells #[.int .i64 x.A, .int .i64 x.B, .int .i64 x.C, .int .i64 x.D, .int .i64 x.K] 23)).alloc (.cells #[.int .i64 y.A, .int .i64 y.B, .int .i64 y.C, .int .i64 y.D, .int .i64 y.K] 23)) := by
    refine ⟨(by repeat (first | with_reducible exact Below.refl _ _ | with_reducible refine below_al ?_ _ | with_reducible refine below_dN ?_ _ | with_reducible refine Below.drew ?_ | (with_reducible refine Below.setCell ?_ (by simp <;> omega) _) | (with_reducible refine below_via (by assumption) ?_))), box_al (box_new w _ _ _ _ _ _) _, ?_⟩
    have h := box_new (w.alloc (.cells #[.int .i64 x.A, .int .i64 x.B, .int .i64 x.C, .int .i64 x.D, .int .i64 x.K] 23)) y.A y.B y.C y.D y.K 23
    rw [World.size_alloc] at h
    exact h
  have HC := Lib.hid hC
  clear hC
  go_enter Tryd.func66, Tryd.ntmps66
  go_wp2_with fail
  refine region_fin (InTwo w w.heap.size (w.heap.size + 1) x y) 5 [x.v, r.v, y.v, s.v, .bool (eq5 r s)] 4 (.bool (eq5 r s)) (by kernel_rfl) (by kernel_rfl) (by kernel_rfl) (by kernel_rfl) (HC.out.call (below_dN (Below.refl _ _) 1)) ?_ ?_
  · intro w' hC
    rename_i hK
    refine hK _ _ ?_
    refine wp_ret ?_
    exact bodyPost_ret (v := .bool (eq5 r s)) (by kernel_rfl) rfl ⟨rfl, hC.1⟩
  refine eachOp_cons (ok_load (by kernel_rfl) (by kernel_rfl) (fun _ hC => load_num (b := w.heap.size) (x := x) rfl (by kernel_rfl) hC.2.1)) ?_
  refine eachOp_cons (ok_call 36 #[x.v] (by kernel_rfl) (by kernel_rfl) (fun _ => by kernel_rfl) (fun w' hC => (HX.out w').mono fun _ _ h => ⟨h.1, hC.call h.2⟩)) ?_
  refine eachOp_cons (ok_load (by kernel_rfl) (by kernel_rfl) (fun _ hC => load_num (b := w.heap.size + 1) (x := y) rfl (by kernel_rfl) hC.2.2)) ?_
  refine eachOp_cons (ok_call 36 #[y.v] (by kernel_rfl) (by kernel_rfl) (fun _ => by kernel_rfl) (fun w' hC => (HY.out w').mono fun _ _ h => ⟨h.1, hC.call h.2⟩)) ?_
  refine eachOp_cons (ok_val (by kernel_rfl) (by kernel_rfl) (fun _ => eql_num (x := r) (y := s) (b := eq5 r s) rfl (by kernel_rfl) (by kernel_rfl) rfl)) ?_
  refine eachOp_cons (ok_val (by kernel_rfl) (by kernel_rfl) (fun _ => by kernel_rfl)) ?_
  exact eachOp_nil
end Go.Proofs.YtjalpolciofphaaDoor
