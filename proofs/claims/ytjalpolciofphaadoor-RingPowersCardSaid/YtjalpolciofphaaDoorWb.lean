
/- Contracts of package ring: products, halves. -/
import Derived.Test.YtjalpolciofphaaDoorWa
import Derived.BigRegion
import Derived.RegionTactic
import Derived.ChangeAlike
set_option linter.all false
set_option maxRecDepth 100000
namespace Go.Proofs.YtjalpolciofphaaDoor
open Go.RowKit

set_option maxHeartbeats 2000000 in
theorem times_raw (A B C D K a b c d k : Int) (w : World) :
    Calls Tryd.prog 44 #[nv A B C D K, nv a b c d k] w (Gives (nv (wrap64 (A * a - B * d - C * c - D * b)) (wrap64 (A * b + B * a - C * d - D * c)) (wrap64 (A * c + B * b + C * a - D * d)) (wrap64 (A * d + B * c + C * b + D * a)) (wrap64 (K + k))) w) := by
  have h : Calls Tryd.prog 44 #[nv A B C D K, nv a b c d k] w (Gives (nv (wrap64 (wrap64 (wrap64 (wrap64 (A * a) - wrap64 (B * d)) - wrap64 (C * c)) - wrap64 (D * b))) (wrap64 (wrap64 (wrap64 (wrap64 (A * b) + wrap64 (B * a)) - wrap64 (C * d)) - wrap64 (D * c))) (wrap64 (wrap64 (wrap64 (wrap64 (A * c) + wrap64 (B * b)) + wrap64 (C * a)) - wrap64 (D * d))) (wrap64 (wrap64 (wrap64 (wrap64 (A * d) + wrap64 (B * c)) + wrap64 (C * b)) + wrap64 (D * a))) (wrap64 (K + k))) w) := by
   go_enter Tryd.func44, Tryd.ntmps44
   go_wp2
   go_quiet (fail)
   go_wp2
   go_quiet (fail)
   go_wp2
   generalize wrap64 (wrap64 (wrap64 (wrap64 (A * a) - wrap64 (B * d)) - wrap64 (C * c)) - wrap64 (D * b)) = r0
   generalize wrap64 (wrap64 (wrap64 (wrap64 (A * b) + wrap64 (B * a)) - wrap64 (C * d)) - wrap64 (D * c)) = r1
   generalize wrap64 (wrap64 (wrap64 (wrap64 (A * c) + wrap64 (B * b)) + wrap64 (C * a)) - wrap64 (D * d)) = r2
   generalize wrap64 (wrap64 (wrap64 (wrap64 (A * d) + wrap64 (B * c)) + wrap64 (C * b)) + wrap64 (D * a)) = r3
   generalize wrap64 (K + k) = r4
   exact bodyPost_ret (v := nv r0 r1 r2 r3 r4) (by simp [results, Tryd.results44, go_sem]) rfl ⟨rfl, (by repeat (first | with_reducible exact Below.refl _ _ | with_reducible refine below_al ?_ _ | with_reducible refine below_dN ?_ _ | with_reducible refine Below.drew ?_ | (with_reducible refine Below.setCell ?_ (by simp <;> omega) _) | (with_reducible refine below_via (by assumption) ?_)))⟩
  simp only [wr_sub, wr_add] at h
  exact h

theorem times_any (A B C D K a b c d k M N : Int) (w : World) (hx : Nm.le ⟨A, B, C, D, K⟩ M) (hy : Nm.le ⟨a, b, c, d, k⟩ N) (hMN : M * N ≤ 1152921504606846976) (hK : -1000000 ≤ K ∧ K ≤ 1000000) (hk : -1000000 ≤ k ∧ k ≤ 1000000) :
    Calls Tryd.prog 44 #[nv A B C D K, nv a b c d k] w (Gives (mulN ⟨A, B, C, D, K⟩ ⟨a, b, c, d, k⟩).v w) := by
  have h := times_raw A B C D K a b c d k w
  have hm := mulN_le hx hy
  unfold Nm.le mulN at hm
  dsimp only at hm
  rw [wr_in (by omega), wr_in (by omega), wr_in (by omega), wr_in (by omega), wr_in (n := K + k) (by omega)] at h
  exact h

/-- What halve leaves: the box halved, or all as it was. -/
def Halved (x : Nm) (b T : Nat) (w : World) (e : Ending) (w' : World) : Prop :=
  e = .returned (.bool x.even) ∧ Only b w w' ∧ Box w' b T (if x.even = true then x.half else x)

set_option maxHeartbeats 4000000 in
theorem halve_odd1 (x : Nm) (b T : Nat) (w : World) (e1 : (x.A + x.C) % 2 ≠ 0) (hb : Box w b T x) :
    Calls Tryd.prog 82 #[.pointer (some ⟨b, 0, none⟩)] w (Halved x b T w) := by
      obtain ⟨A, B, C, D, K⟩ := x
      obtain ⟨h0, h1, h2, h3, h4⟩ := hb.cell
      have HB := Lib.hid hb
      clear hb
      dsimp only at *
      have E : Hid (Nm.even ⟨A, B, C, D, K⟩ = false) := decide_eq_false (fun h => e1 h.1)
      have g1 : (Go.bits .and .i64 (Go.bits .xor .i64 A C) 1 != 0) = true := by rw [bits_and1, bits_xor_par, bne_iff_ne]; exact e1
      clear e1
      go_enter Tryd.func82, Tryd.ntmps82
      go_wp2_with fail
      go_quiet (fail)
      go_wp2
      go_ret
      refine ⟨by rw [E.out]; rfl, (by repeat (first | with_reducible exact Only.refl _ _ | with_reducible refine Only.set ?_ _ _ | with_reducible refine Only.dN ?_ _ | with_reducible refine Only.drew ?_)), ?_⟩
      rw [E.out]
      exact HB.out
set_option maxHeartbeats 4000000 in
theorem halve_odd2 (x : Nm) (b T : Nat) (w : World) (e1 : (x.A + x.C) % 2 = 0) (e2 : (x.B + x.D) % 2 ≠ 0) (hb : Box w b T x) :
    Calls Tryd.prog 82 #[.pointer (some ⟨b, 0, none⟩)] w (Halved x b T w) := by
      obtain ⟨A, B, C, D, K⟩ := x
      obtain ⟨h0, h1, h2, h3, h4⟩ := hb.cell
      have HB := Lib.hid hb
      clear hb
      dsimp only at *
      have E : Hid (Nm.even ⟨A, B, C, D, K⟩ = false) := decide_eq_false (fun h => e2 h.2)
      have g1 : (Go.bits .and .i64 (Go.bits .xor .i64 A C) 1 != 0) = false := by rw [bits_and1, bits_xor_par, e1]; rfl
      have g2 : (Go.bits .and .i64 (Go.bits .xor .i64 B D) 1 != 0) = true := by rw [bits_and1, bits_xor_par, bne_iff_ne]; exact e2
      clear e1 e2
      go_enter Tryd.func82, Tryd.ntmps82
      go_wp2_with fail
      go_quiet (fail)
      go_wp2
      go_ret
      refine ⟨by rw [E.out]; rfl, (by repeat (first | with_reducible exact Only.refl _ _ | with_reducible refine Only.set ?_ _ _ | with_reducible refine Only.dN ?_ _ | with_reducible refine Only.drew ?_)), ?_⟩
      rw [E.out]
      exact HB.out
set_option maxHeartbeats 4000000 in
theorem halve_even (x : Nm) (b T : Nat) (w : World) (hx : x.wide) (hK : -1000000 ≤ x.K ∧ x.K ≤ 1000000) (e1 : (x.A + x.C) % 2 = 0) (e2 : (x.B + x.D) % 2 = 0) (hb : Box w b T x) :
    Calls Tryd.prog 82 #[.pointer (some ⟨b, 0, none⟩)] w (Halved x b T w) := by
      obtain ⟨A, B, C, D, K⟩ := x
      obtain ⟨h0, h1, h2, h3, h4⟩ := hb.cell
      obtain ⟨f0, f1, f2, f3, f4⟩ := hb.free
      have HB := Lib.hid hb
      clear hb
      obtain ⟨⟨hA1, hA2⟩, ⟨hB1, hB2⟩, ⟨hC1, hC2⟩, ⟨hD1, hD2⟩⟩ := hx
      dsimp only at *
      obtain ⟨hK1, hK2⟩ := hK
      have E : Hid (Nm.even ⟨A, B, C, D, K⟩ = true) := decide_eq_true ⟨e1, e2⟩
      have g1 : (Go.bits .and .i64 (Go.bits .xor .i64 A C) 1 != 0) = false := by rw [bits_and1, bits_xor_par, e1]; rfl
      have g2 : (Go.bits .and .i64 (Go.bits .xor .i64 B D) 1 != 0) = false := by rw [bits_and1, bits_xor_par, e2]; rfl
      have i1 := bits_and1 A
      have i2 := bits_and1 B
      clear e1 e2
      go_enter Tryd.func82, Tryd.ntmps82
      go_wp2_with fail
      go_quiet (fail)
      go_wp2
      go_quiet (fail)
      go_wp2
      go_region
      go_wp2
      go_ret
      refine ⟨by rw [E.out]; rfl, (by repeat (first | with_reducible exact Only.refl _ _ | with_reducible refine Only.set ?_ _ _ | with_reducible refine Only.dN ?_ _ | with_reducible refine Only.drew ?_)), ?_⟩
      rw [E.out, if_pos rfl]
      exact heap_set (heap_set (heap_set (heap_set (heap_set HB.out))))
theorem halve_any (x : Nm) (b T : Nat) (w : World) (hx : x.wide) (hK : -1000000 ≤ x.K ∧ x.K ≤ 1000000) (hb : Box w b T x) :
    Calls Tryd.prog 82 #[.pointer (some ⟨b, 0, none⟩)] w (Halved x b T w) := by
  by_cases e1 : (x.A + x.C) % 2 = 0
  · by_cases e2 : (x.B + x.D) % 2 = 0
    · exact halve_even x b T w hx hK e1 e2 hb
    · exact halve_odd2 x b T w e1 e2 hb
  · exact halve_odd1 x b T w e1 hb
/-- halve: done, or not done. -/
theorem halve_yes (x : Nm) (b T : Nat) (w : World) (hx : x.wide) (hK : -1000000 ≤ x.K ∧ x.K ≤ 1000000) (hb : Box w b T x) (he : x.even = true) :
    Calls Tryd.prog 82 #[.pointer (some ⟨b, 0, none⟩)] w (fun e w' => e = .returned (.bool true) ∧ Only b w w' ∧ Box w' b T x.half) :=
  (halve_any x b T w hx hK hb).mono fun e w' ⟨h1, h2, h3⟩ => ⟨by rw [h1, he], h2, by rw [he, if_pos rfl] at h3; exact h3⟩
theorem halve_no (x : Nm) (b T : Nat) (w : World) (hx : x.wide) (hK : -1000000 ≤ x.K ∧ x.K ≤ 1000000) (hb : Box w b T x) (he : x.even = false) :
    Calls Tryd.prog 82 #[.pointer (some ⟨b, 0, none⟩)] w (fun e w' => e = .returned (.bool false) ∧ Only b w w' ∧ Box w' b T x) :=
  (halve_any x b T w hx hK hb).mono fun e w' ⟨h1, h2, h3⟩ => ⟨by rw [h1, he], h2, by rw [he] at h3; exact h3⟩
end Go.Proofs.YtjalpolciofphaaDoor
