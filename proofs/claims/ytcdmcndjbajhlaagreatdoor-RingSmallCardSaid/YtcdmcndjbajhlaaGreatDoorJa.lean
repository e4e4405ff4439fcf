/- Contracts of package ring: Neg, Conj, Dot, Norm, Mul. -/
import Derived.Test.YtcdmcndjbajhlaaGreatDoorJm
import Derived.BigRegion
import Derived.RegionTactic
import Derived.ChangeAlike
import Derived.Deep.RegionWith
set_option linter.all false
set_option maxRecDepth 100000
namespace Go.Proofs.YtcdmcndjbajhlaaGreatDoor
open Go.RowKit
attribute [local go_sem] run_min_int5 run_max_int5

theorem inb_eq (A B C D m : Int) : inb A B C D m = decide (lo5 (-m) A B C D = -m ∧ hi5 m A B C D = m) := by
  have h1 := lo5_eq A B C D m
  have h2 := hi5_eq A B C D m
  unfold inb
  rw [decide_eq_decide, h1, h2]
  constructor <;> intro h <;> omega

set_option maxHeartbeats 1000000 in
theorem within_any (A B C D K m : Int) (w : World) (hm : 0 ≤ m) (hm2 : m ≤ 1073741824) :
    Calls Tryz.prog 58 #[nv A B C D K, .int .i64 m] w (Gives (.bool (inb A B C D m)) w) := by
  rw [inb_eq]
  go_enter Tryz.func58, Tryz.ntmps58
  go_wp2
  all_goals
    go_ret
    exact ⟨by simp [*], (by repeat (first | with_reducible exact Below.refl _ _ | with_reducible refine below_al ?_ _ | with_reducible refine below_dN ?_ _ | with_reducible refine Below.drew ?_ | (with_reducible refine Below.setCell ?_ (by simp <;> omega) _) | (with_reducible refine below_via (by assumption) ?_)))⟩

set_option maxHeartbeats 1000000 in
theorem check_any (A B C D K : Int) (w : World) :
    Calls Tryz.prog 15 #[nv A B C D K] w (Gives (.int .i64 (chk A B C D K)) w) := by
  by_cases h1 : K < 0
  · go_enter Tryz.func15, Tryz.ntmps15
    go_wp2_with fail
    go_ret
    exact ⟨by simp [chk, h1], (by repeat (first | with_reducible exact Below.refl _ _ | with_reducible refine below_al ?_ _ | with_reducible refine below_dN ?_ _ | with_reducible refine Below.drew ?_ | (with_reducible refine Below.setCell ?_ (by simp <;> omega) _) | (with_reducible refine below_via (by assumption) ?_)))⟩
  · by_cases h2 : 60 < K
    · go_enter Tryz.func15, Tryz.ntmps15
      go_wp2_with fail
      go_ret
      exact ⟨by simp [chk, h2], (by repeat (first | with_reducible exact Below.refl _ _ | with_reducible refine below_al ?_ _ | with_reducible refine below_dN ?_ _ | with_reducible refine Below.drew ?_ | (with_reducible refine Below.setCell ?_ (by simp <;> omega) _) | (with_reducible refine below_via (by assumption) ?_)))⟩
    · have h3 : ¬ (K < 0 ∨ 60 < K) := by omega
      have H3 := Lib.hid h3
      clear h3
      cases hi : inb A B C D 1073741824
      all_goals
        have Hi := Lib.hid hi
        clear hi
        go_enter Tryz.func15, Tryz.ntmps15
        go_wp2_with (go_at_call 58; refine (within_any _ _ _ _ _ _ _ (by omega) (by omega)).mono ?_; rw [Hi.out]; rintro e w1 ⟨rfl, hb⟩)
        go_ret
        exact ⟨by simp [chk, H3.out, Hi.out], (by repeat (first | with_reducible exact Below.refl _ _ | with_reducible refine below_al ?_ _ | with_reducible refine below_dN ?_ _ | with_reducible refine Below.drew ?_ | (with_reducible refine Below.setCell ?_ (by simp <;> omega) _) | (with_reducible refine below_via (by assumption) ?_)))⟩

set_option maxHeartbeats 1000000 in
theorem coefs_any (A B C D K : Int) (w : World) :
    Calls Tryz.prog 18 #[nv A B C D K] w (Gives (.agg #[.int .i64 A, .int .i64 B, .int .i64 C, .int .i64 D]) w) := by
  go_enter Tryz.func18, Tryz.ntmps18
  go_wp2
  exact bodyPost_ret (v := .agg #[.int .i64 A, .int .i64 B, .int .i64 C, .int .i64 D]) (by simp [results, Tryz.results18, go_sem]) rfl ⟨rfl, (by repeat (first | with_reducible exact Below.refl _ _ | with_reducible refine below_al ?_ _ | with_reducible refine below_dN ?_ _ | with_reducible refine Below.drew ?_ | (with_reducible refine Below.setCell ?_ (by simp <;> omega) _) | (with_reducible refine below_via (by assumption) ?_)))⟩

set_option maxHeartbeats 1000000 in
theorem over_any (A B C D K : Int) (w : World) :
    Calls Tryz.prog 67 #[.agg #[.int .i64 A, .int .i64 B, .int .i64 C, .int .i64 D], .int .i64 K] w (Gives (nv A B C D K) w) := by
  go_enter Tryz.func67, Tryz.ntmps67
  go_wp2
  exact bodyPost_ret (v := nv A B C D K) (by simp [results, Tryz.results67, go_sem]) rfl ⟨rfl, (by repeat (first | with_reducible exact Below.refl _ _ | with_reducible refine below_al ?_ _ | with_reducible refine below_dN ?_ _ | with_reducible refine Below.drew ?_ | (with_reducible refine Below.setCell ?_ (by simp <;> omega) _) | (with_reducible refine below_via (by assumption) ?_)))⟩

set_option maxHeartbeats 1000000 in
theorem negative_any (A B C D K : Int) (w : World) (hA : -4611686018427387904 ≤ A ∧ A ≤ 4611686018427387904) (hB : -4611686018427387904 ≤ B ∧ B ≤ 4611686018427387904) (hC : -4611686018427387904 ≤ C ∧ C ≤ 4611686018427387904) (hD : -4611686018427387904 ≤ D ∧ D ≤ 4611686018427387904) :
    Calls Tryz.prog 92 #[nv A B C D K] w (Gives (nv (-A) (-B) (-C) (-D) K) w) := by
  obtain ⟨hA1, hA2⟩ := hA
  obtain ⟨hB1, hB2⟩ := hB
  obtain ⟨hC1, hC2⟩ := hC
  obtain ⟨hD1, hD2⟩ := hD
  go_enter Tryz.func92, Tryz.ntmps92
  go_wp2
  exact bodyPost_ret (v := nv (-A) (-B) (-C) (-D) K) (by simp [results, Tryz.results92, go_sem]) rfl ⟨rfl, (by repeat (first | with_reducible exact Below.refl _ _ | with_reducible refine below_al ?_ _ | with_reducible refine below_dN ?_ _ | with_reducible refine Below.drew ?_ | (with_reducible refine Below.setCell ?_ (by simp <;> omega) _) | (with_reducible refine below_via (by assumption) ?_)))⟩

set_option maxHeartbeats 1000000 in
theorem conjugate_any (A B C D K : Int) (w : World) (hB : -4611686018427387904 ≤ B ∧ B ≤ 4611686018427387904) (hC : -4611686018427387904 ≤ C ∧ C ≤ 4611686018427387904) (hD : -4611686018427387904 ≤ D ∧ D ≤ 4611686018427387904) :
    Calls Tryz.prog 93 #[nv A B C D K] w (Gives (nv A (-D) (-C) (-B) K) w) := by
  obtain ⟨hB1, hB2⟩ := hB
  obtain ⟨hC1, hC2⟩ := hC
  obtain ⟨hD1, hD2⟩ := hD
  go_enter Tryz.func93, Tryz.ntmps93
  go_wp2
  exact bodyPost_ret (v := nv A (-D) (-C) (-B) K) (by simp [results, Tryz.results93, go_sem]) rfl ⟨rfl, (by repeat (first | with_reducible exact Below.refl _ _ | with_reducible refine below_al ?_ _ | with_reducible refine below_dN ?_ _ | with_reducible refine Below.drew ?_ | (with_reducible refine Below.setCell ?_ (by simp <;> omega) _) | (with_reducible refine below_via (by assumption) ?_)))⟩
end Go.Proofs.YtcdmcndjbajhlaaGreatDoor
namespace Go.Proofs.YtcdmcndjbajhlaaGreatDoor
open Go.RowKit

set_option maxHeartbeats 2000000 in
theorem times_raw (A B C D K a b c d k : Int) (w : World) :
    Calls Tryz.prog 73 #[nv A B C D K, nv a b c d k] w (Gives (nv (wrap64 (A * a - B * d - C * c - D * b)) (wrap64 (A * b + B * a - C * d - D * c)) (wrap64 (A * c + B * b + C * a - D * d)) (wrap64 (A * d + B * c + C * b + D * a)) (wrap64 (K + k))) w) := by
  have h : Calls Tryz.prog 73 #[nv A B C D K, nv a b c d k] w (Gives (nv (wrap64 (wrap64 (wrap64 (wrap64 (A * a) - wrap64 (B * d)) - wrap64 (C * c)) - wrap64 (D * b))) (wrap64 (wrap64 (wrap64 (wrap64 (A * b) + wrap64 (B * a)) - wrap64 (C * d)) - wrap64 (D * c))) (wrap64 (wrap64 (wrap64 (wrap64 (A * c) + wrap64 (B * b)) + wrap64 (C * a)) - wrap64 (D * d))) (wrap64 (wrap64 (wrap64 (wrap64 (A * d) + wrap64 (B * c)) + wrap64 (C * b)) + wrap64 (D * a))) (wrap64 (K + k))) w) := by
   go_enter Tryz.func73, Tryz.ntmps73
   go_wp2
   go_quiet (fail)
   go_wp2
   go_quiet (fail)
   go_wp2
   generalize wrap64 (wrap64 (wrap64 (wrap64 (A * a) - wrap64 (B * d)) - wrap64 (C * c)) - wrap64 (D * b)) = r0
   generalize wrap64 (wrap64 (wrap64 (wrap64 (A * b) + wrap64 (B * a)) - wrap64 (C * d)) - wrap64 (D * c)) = r1
   generalize wrap64 (wrap64 (wrap64 (wrap64 (A * c) + wrap64 (B * b)) + wrap64 (C * a)) - wrap64 (D * d)) = r2
   generalize wrap64 (wrap64 (wrap64 (wrap64 (A * d) + wrap64 (B * c)) + wrap64 (C * b)) + wrap64 (D * a)) = r3
   generalize wrap64 (K + k) = r4
   exact bodyPost_ret (v := nv r0 r1 r2 r3 r4) (by simp [results, Tryz.results73, go_sem]) rfl ⟨rfl, (by repeat (first | with_reducible exact Below.refl _ _ | with_reducible refine below_al ?_ _ | with_reducible refine below_dN ?_ _ | with_reducible refine Below.drew ?_ | (with_reducible refine Below.setCell ?_ (by simp <;> omega) _) | (with_reducible refine below_via (by assumption) ?_)))⟩
  simp only [wr_sub, wr_add] at h
  exact h

theorem times_any (A B C D K a b c d k M N : Int) (w : World) (hx : Nm.le ⟨A, B, C, D, K⟩ M) (hy : Nm.le ⟨a, b, c, d, k⟩ N) (hMN : M * N ≤ 1152921504606846976) (hK : -1000000 ≤ K ∧ K ≤ 1000000) (hk : -1000000 ≤ k ∧ k ≤ 1000000) :
    Calls Tryz.prog 73 #[nv A B C D K, nv a b c d k] w (Gives (mulN ⟨A, B, C, D, K⟩ ⟨a, b, c, d, k⟩).v w) := by
  have h := times_raw A B C D K a b c d k w
  have hm := mulN_le hx hy
  unfold Nm.le mulN at hm
  dsimp only at hm
  rw [wr_in (by omega), wr_in (by omega), wr_in (by omega), wr_in (by omega), wr_in (n := K + k) (by omega)] at h
  exact h

/-- What halve leaves: the box halved, or all as it was. -/
def Halved (x : Nm) (b T : Nat) (w : World) (e : Ending) (w' : World) : Prop :=
  e = .returned (.bool x.even) ∧ Only b w w' ∧ Box w' b T (if x.even = true then x.half else x)

set_option maxHeartbeats 4000000 in
theorem halve_odd1 (x : Nm) (b T : Nat) (w : World) (e1 : (x.A + x.C) % 2 ≠ 0) (hb : Box w b T x) :
    Calls Tryz.prog 59 #[.pointer (some ⟨b, 0, none⟩)] w (Halved x b T w) := by
      obtain ⟨A, B, C, D, K⟩ := x
      obtain ⟨h0, h1, h2, h3, h4⟩ := hb.cell
      have HB := Lib.hid hb
      clear hb
      dsimp only at *
      have E : Hid (Nm.even ⟨A, B, C, D, K⟩ = false) := decide_eq_false (fun h => e1 h.1)
      have g1 : (Go.bits .and .i64 (Go.bits .xor .i64 A C) 1 != 0) = true := by rw [bits_and1, bits_xor_par, bne_iff_ne]; exact e1
      clear e1
      go_enter Tryz.func59, Tryz.ntmps59
      go_wp2_with fail
      go_quiet (fail)
      go_wp2
      go_ret
      refine ⟨by rw [E.out]; rfl, (by repeat (first | with_reducible exact Only.refl _ _ | with_reducible refine Only.set ?_ _ _ | with_reducible refine Only.dN ?_ _ | with_reducible refine Only.drew ?_)), ?_⟩
      rw [E.out]
      exact HB.out
set_option maxHeartbeats 4000000 in
theorem halve_odd2 (x : Nm) (b T : Nat) (w : World) (e1 : (x.A + x.C) % 2 = 0) (e2 : (x.B + x.D) % 2 ≠ 0) (hb : Box w b T x) :
    Calls Tryz.prog 59 #[.pointer (some ⟨b, 0, none⟩)] w (Halved x b T w) := by
      obtain ⟨A, B, C, D, K⟩ := x
      obtain ⟨h0, h1, h2, h3, h4⟩ := hb.cell
      have HB := Lib.hid hb
      clear hb
      dsimp only at *
      have E : Hid (Nm.even ⟨A, B, C, D, K⟩ = false) := decide_eq_false (fun h => e2 h.2)
      have g1 : (Go.bits .and .i64 (Go.bits .xor .i64 A C) 1 != 0) = false := by rw [bits_and1, bits_xor_par, e1]; rfl
      have g2 : (Go.bits .and .i64 (Go.bits .xor .i64 B D) 1 != 0) = true := by rw [bits_and1, bits_xor_par, bne_iff_ne]; exact e2
      clear e1 e2
      go_enter Tryz.func59, Tryz.ntmps59
      go_wp2_with fail
      go_quiet (fail)
      go_wp2
      go_ret
      refine ⟨by rw [E.out]; rfl, (by repeat (first | with_reducible exact Only.refl _ _ | with_reducible refine Only.set ?_ _ _ | with_reducible refine Only.dN ?_ _ | with_reducible refine Only.drew ?_)), ?_⟩
      rw [E.out]
      exact HB.out
set_option maxHeartbeats 4000000 in
theorem halve_even (x : Nm) (b T : Nat) (w : World) (hx : x.wide) (hK : -1000000 ≤ x.K ∧ x.K ≤ 1000000) (e1 : (x.A + x.C) % 2 = 0) (e2 : (x.B + x.D) % 2 = 0) (hb : Box w b T x) :
    Calls Tryz.prog 59 #[.pointer (some ⟨b, 0, none⟩)] w (Halved x b T w) := by
      obtain ⟨A, B, C, D, K⟩ := x
      obtain ⟨h0, h1, h2, h3, h4⟩ := hb.cell
      obtain ⟨f0, f1, f2, f3, f4⟩ := hb.free
      have HB := Lib.hid hb
      clear hb
      obtain ⟨⟨hA1, hA2⟩, ⟨hB1, hB2⟩, ⟨hC1, hC2⟩, ⟨hD1, hD2⟩⟩ := hx
      dsimp only at *
      obtain ⟨hK1, hK2⟩ := hK
      have E : Hid (Nm.even ⟨A, B, C, D, K⟩ = true) := decide_eq_true ⟨e1, e2⟩
      have g1 : (Go.bits .and .i64 (Go.bits .xor .i64 A C) 1 != 0) = false := by rw [bits_and1, bits_xor_par, e1]; rfl
      have g2 : (Go.bits .and .i64 (Go.bits .xor .i64 B D) 1 != 0) = false := by rw [bits_and1, bits_xor_par, e2]; rfl
      have i1 := bits_and1 A
      have i2 := bits_and1 B
      clear e1 e2
      go_enter Tryz.func59, Tryz.ntmps59
      go_wp2_with fail
      go_quiet (fail)
      go_wp2
      go_quiet (fail)
      go_wp2
      go_region
      go_wp2
      go_ret
      refine ⟨by rw [E.out]; rfl, (by repeat (first | with_reducible exact Only.refl _ _ | with_reducible refine Only.set ?_ _ _ | with_reducible refine Only.dN ?_ _ | with_reducible refine Only.drew ?_)), ?_⟩
      rw [E.out, if_pos rfl]
      exact heap_set (heap_set (heap_set (heap_set (heap_set HB.out))))
theorem halve_any (x : Nm) (b T : Nat) (w : World) (hx : x.wide) (hK : -1000000 ≤ x.K ∧ x.K ≤ 1000000) (hb : Box w b T x) :
    Calls Tryz.prog 59 #[.pointer (some ⟨b, 0, none⟩)] w (Halved x b T w) := by
  by_cases e1 : (x.A + x.C) % 2 = 0
  · by_cases e2 : (x.B + x.D) % 2 = 0
    · exact halve_even x b T w hx hK e1 e2 hb
    · exact halve_odd2 x b T w e1 e2 hb
  · exact halve_odd1 x b T w e1 hb
/-- halve: done, or not done. -/
theorem halve_yes (x : Nm) (b T : Nat) (w : World) (hx : x.wide) (hK : -1000000 ≤ x.K ∧ x.K ≤ 1000000) (hb : Box w b T x) (he : x.even = true) :
    Calls Tryz.prog 59 #[.pointer (some ⟨b, 0, none⟩)] w (fun e w' => e = .returned (.bool true) ∧ Only b w w' ∧ Box w' b T x.half) :=
  (halve_any x b T w hx hK hb).mono fun e w' ⟨h1, h2, h3⟩ => ⟨by rw [h1, he], h2, by rw [he, if_pos rfl] at h3; exact h3⟩
theorem halve_no (x : Nm) (b T : Nat) (w : World) (hx : x.wide) (hK : -1000000 ≤ x.K ∧ x.K ≤ 1000000) (hb : Box w b T x) (he : x.even = false) :
    Calls Tryz.prog 59 #[.pointer (some ⟨b, 0, none⟩)] w (fun e w' => e = .returned (.bool false) ∧ Only b w w' ∧ Box w' b T x) :=
  (halve_any x b T w hx hK hb).mono fun e w' ⟨h1, h2, h3⟩ => ⟨by rw [h1, he], h2, by rw [he] at h3; exact h3⟩
end Go.Proofs.YtcdmcndjbajhlaaGreatDoor
namespace Go.Proofs.YtcdmcndjbajhlaaGreatDoor
open Go.RowKit

def Lifted (y : Nm) (b T : Nat) (w : World) (e : Ending) (w' : World) : Prop :=
  e = .returned (.tuple #[]) ∧ Only b w w' ∧ Box w' b T y

set_option maxHeartbeats 1000000 in
theorem lift_none (x : Nm) (k : Int) (b T : Nat) (w : World) (hK : -1000 ≤ x.K ∧ x.K ≤ 1000) (hk : -1000 ≤ k ∧ k ≤ 1000) (hb : Box w b T x) (hle : k ≤ x.K) :
    Calls Tryz.prog 104 #[.pointer (some ⟨b, 0, none⟩), .int .i64 k] w (Lifted x b T w) := by
  obtain ⟨A, B, C, D, K⟩ := x
  obtain ⟨h0, h1, h2, h3, h4⟩ := hb.cell
  have HB := Lib.hid hb
  clear hb
  dsimp only at *
  obtain ⟨hK1, hK2⟩ := hK
  obtain ⟨hk1, hk2⟩ := hk
  go_enter Tryz.func104, Tryz.ntmps104
  go_wp2
  go_end0
  exact ⟨rfl, (by repeat (first | with_reducible exact Only.refl _ _ | with_reducible refine Only.set ?_ _ _ | with_reducible refine Only.dN ?_ _ | with_reducible refine Only.drew ?_)), HB.out⟩

set_option maxHeartbeats 4000000 in
theorem lift_even (x : Nm) (k : Int) (b T : Nat) (w : World) (hx : x.le 1073741824) (hK : -1000 ≤ x.K ∧ x.K ≤ 1000) (hk : -1000 ≤ k ∧ k ≤ 1000) (hb : Box w b T x) (hlt : x.K < k) (h60 : k - x.K ≤ 60) (he : (k - x.K) % 2 = 0) :
    Calls Tryz.prog 104 #[.pointer (some ⟨b, 0, none⟩), .int .i64 k] w (Lifted (upN (k - x.K).toNat x) b T w) := by
  obtain ⟨A, B, C, D, K⟩ := x
  obtain ⟨h0, h1, h2, h3, h4⟩ := hb.cell
  obtain ⟨f0, f1, f2, f3, f4⟩ := hb.free
  have HB := Lib.hid hb
  clear hb
  dsimp only at *
  obtain ⟨hK1, hK2⟩ := hK
  obtain ⟨hk1, hk2⟩ := hk
  have HX := Lib.hid hx
  clear hx
  have g1 : ((k - K) % 2 != 0) = false := by rw [he]; rfl
  have HE := Lib.hid he
  clear he
  go_enter Tryz.func104, Tryz.ntmps104
  have t1 : 0 ≤ (k - K) / 2 := by omega
  have t2 : (k - K) / 2 ≤ 63 := by omega
  go_wp2
  go_region
  go_wp2
  go_end0
  have hn : (k - K).toNat = 2 * ((k - K) / 2).toNat := by have := HE.out; omega
  have hu := upN_even ((k - K) / 2).toNat ⟨A, B, C, D, K⟩
  rw [← hn] at hu
  have hl := upN_le (k - K).toNat (by omega) HX.out
  have hKK := upN_K (k - K).toNat ⟨A, B, C, D, K⟩
  dsimp only at hKK
  have e5 : (upN (k - K).toNat ⟨A, B, C, D, K⟩).K = k := by rw [hKK]; omega
  unfold Nm.le at hl
  have e1 : wrap64 (A * 2 ^ ((k - K) / 2).toNat) = (upN (k - K).toNat ⟨A, B, C, D, K⟩).A := by
    have : (upN (k - K).toNat ⟨A, B, C, D, K⟩).A = A * 2 ^ ((k - K) / 2).toNat := by rw [hu]; rfl
    rw [← this]; exact wr_in (by omega)
  have e2 : wrap64 (B * 2 ^ ((k - K) / 2).toNat) = (upN (k - K).toNat ⟨A, B, C, D, K⟩).B := by
    have : (upN (k - K).toNat ⟨A, B, C, D, K⟩).B = B * 2 ^ ((k - K) / 2).toNat := by rw [hu]; rfl
    rw [← this]; exact wr_in (by omega)
  have e3 : wrap64 (C * 2 ^ ((k - K) / 2).toNat) = (upN (k - K).toNat ⟨A, B, C, D, K⟩).C := by
    have : (upN (k - K).toNat ⟨A, B, C, D, K⟩).C = C * 2 ^ ((k - K) / 2).toNat := by rw [hu]; rfl
    rw [← this]; exact wr_in (by omega)
  have e4 : wrap64 (D * 2 ^ ((k - K) / 2).toNat) = (upN (k - K).toNat ⟨A, B, C, D, K⟩).D := by
    have : (upN (k - K).toNat ⟨A, B, C, D, K⟩).D = D * 2 ^ ((k - K) / 2).toNat := by rw [hu]; rfl
    rw [← this]; exact wr_in (by omega)
  refine ⟨rfl, (by repeat (first | with_reducible exact Only.refl _ _ | with_reducible refine Only.set ?_ _ _ | with_reducible refine Only.dN ?_ _ | with_reducible refine Only.drew ?_)), ?_⟩
  unfold Box
  rw [← e1, ← e2, ← e3, ← e4, e5]
  exact heap_set (heap_set (heap_set (heap_set (heap_set HB.out))))

end Go.Proofs.YtcdmcndjbajhlaaGreatDoor
namespace Go.Proofs.YtcdmcndjbajhlaaGreatDoor
open Go.RowKit

theorem box_new (w : World) (A B C D K : Int) (T : Nat) : Box (w.alloc (.cells #[.int .i64 A, .int .i64 B, .int .i64 C, .int .i64 D, .int .i64 K] T)) w.heap.size T ⟨A, B, C, D, K⟩ := heap_alloc_new _ _
theorem box_al {w : World} {b T : Nat} {x : Nm} (h : Box w b T x) (o : Obj) : Box (w.alloc o) b T x := by
  unfold Box; rw [Below.heap_alloc _ _ _ h.lt]; exact h

attribute [local go_sem] run_eql_arr4
theorem coef_eql (A B C D : Int) : eq4 A B C D 0 0 0 0 = decide (A = 0 ∧ B = 0 ∧ C = 0 ∧ D = 0) := rfl

set_option maxHeartbeats 4000000 in
theorem least_none (A B C D K : Int) (w : World) (hz : Nm.zero ⟨A, B, C, D, K⟩ = true) :
    Calls Tryz.prog 16 #[nv A B C D K] w (Gives nul.v w) := by
  have hz4 : eq4 A B C D 0 0 0 0 = true := hz
  clear hz
  go_enter Tryz.func16, Tryz.ntmps16
  go_wp2_with (go_at_call 18; refine (coefs_any _ _ _ _ _ _).mono ?_; rintro e w1 ⟨rfl, hb⟩; obtain ⟨hc, hf⟩ := bcell hb)
  exact bodyPost_ret (v := nul.v) (by simp [results, Tryz.results16, go_sem, hc]) rfl ⟨rfl, (by repeat (first | with_reducible exact Below.refl _ _ | with_reducible refine below_al ?_ _ | with_reducible refine below_dN ?_ _ | with_reducible refine Below.drew ?_ | (with_reducible refine Below.setCell ?_ (by simp <;> omega) _) | (with_reducible refine below_via (by assumption) ?_)))⟩

set_option maxHeartbeats 4000000 in
theorem least_some (A B C D K : Int) (w : World) (hx : Nm.wide ⟨A, B, C, D, K⟩) (hK : 0 ≤ K ∧ K ≤ 1000) (hz : Nm.zero ⟨A, B, C, D, K⟩ = false) :
    Calls Tryz.prog 16 #[nv A B C D K] w (Gives (form K.toNat ⟨A, B, C, D, K⟩).v w) := by
  have hz4 : eq4 A B C D 0 0 0 0 = false := hz
  clear hz
  obtain ⟨hK1, hK2⟩ := hK
  go_enter Tryz.func16, Tryz.ntmps16
  go_wp2_with (go_at_call 18; refine (coefs_any _ _ _ _ _ _).mono ?_; rintro e w1 ⟨rfl, hb⟩; obtain ⟨hc, hf⟩ := bcell hb)
  have bN : Box w1 w.heap.size 40 ⟨A, B, C, D, K⟩ := (box_al (box_new _ _ _ _ _ _ _) _).below hb (by simp; omega)
  have bR : Box w1 (w.heap.size + 1) 40 nul := by
    have h0 := box_new (w.alloc (.cells #[.int .i64 A, .int .i64 B, .int .i64 C, .int .i64 D, .int .i64 K] 40)) 0 0 0 0 0 40
    simp only [World.size_alloc] at h0
    exact h0.below hb (by simp)
  have hw1 : Below w.heap.size w w1 := (by repeat (first | with_reducible exact Below.refl _ _ | with_reducible refine below_al ?_ _ | with_reducible refine below_dN ?_ _ | with_reducible refine Below.drew ?_ | (with_reducible refine Below.setCell ?_ (by simp <;> omega) _) | (with_reducible refine below_via (by assumption) ?_)))
  clear hb hc hf
  go_loopw [13] (fun i wr => ∃ (k : Nat) (y : Nm), k ≤ K.toNat ∧ i = .int .i64 k ∧ y.wide ∧ y.K = K - k ∧ form (K.toNat - k) y = form K.toNat ⟨A, B, C, D, K⟩ ∧ Box wr w.heap.size 40 y ∧ Box wr (w.heap.size + 1) 40 nul ∧ Below w.heap.size w wr) (fun i _ => K.toNat - (intOf i).toNat)
  case atStart => exact ⟨0, ⟨A, B, C, D, K⟩, Nat.zero_le _, rfl, hx, by simp, rfl, bN, bR, hw1⟩
  case round =>
    clear bN bR hw1
    obtain ⟨k, y, hk, rfl, hy, hyK, hform, bN, bR, hwr⟩ := hrel
    have HF := Lib.hid hform
    have HYK := Lib.hid hyK
    have hyK1 : y.K ≤ K - k := by omega
    have hyK2 : K - k ≤ y.K := by omega
    clear hform hyK
    obtain ⟨c0, c1, c2, c3, c4⟩ := bN.cell
    obtain ⟨r0, r1, r2, r3, r4⟩ := bR.cell
    obtain ⟨q0, q1, q2, q3, q4⟩ := bR.free
    by_cases hlt : (k : Int) < K
    · have hk2 : K.toNat - k = (K.toNat - (k + 1)) + 1 := by omega
      cases he : y.even
      · have HR : Hid (form K.toNat ⟨A, B, C, D, K⟩ = y) := by rw [← HF.out, hk2, form, if_neg (by rw [he]; exact Bool.false_ne_true)]; exact (rfl : y = y)
        have HE := Lib.hid he
        clear he hk2
        go_wp2_with (go_at_call 59; refine (halve_no y _ 40 _ hy (by omega) bN HE.out).mono ?_; rintro e w2 ⟨rfl, ho, hb2⟩; obtain ⟨c0, c1, c2, c3, c4⟩ := hb2.cell; have bR2 := bR.only ho (by omega); obtain ⟨r0, r1, r2, r3, r4⟩ := bR2.cell; obtain ⟨q0, q1, q2, q3, q4⟩ := bR2.free; have h02 := ho.below (B := w.heap.size) (Nat.le_refl _))
        rw [HR.out]
        exact bodyPost_ret (v := y.v) (by simp [results, Tryz.results16, go_sem, r0, r1, r2, r3, r4]) rfl ⟨rfl, (Below.trans (Below.trans hwr h02) (by repeat (first | with_reducible exact Below.refl _ _ | with_reducible refine Below.alloc ?_ (by have := h02.size; have := hwr.size; simp <;> omega) _ | with_reducible refine below_dN ?_ _ | with_reducible refine Below.drew ?_ | (with_reducible refine Below.setCell ?_ (by simp <;> omega) _))))⟩
      · have hh : y.half.wide := Nm.wide_half hy he
        have HR : Hid (form (K.toNat - (k + 1)) y.half = form K.toNat ⟨A, B, C, D, K⟩) := by rw [← HF.out, hk2, form, if_pos he]; exact (rfl : form _ _ = form _ _)
        have HE := Lib.hid he
        clear he hk2
        go_wp2_with (go_at_call 59; refine (halve_yes y _ 40 _ hy (by omega) bN HE.out).mono ?_; rintro e w2 ⟨rfl, ho, hb2⟩)
        go_roundw
        case rel => exact ⟨k + 1, y.half, by omega, by go_num, hh, by have := HYK.out; simp only [Nm.half]; omega, HR.out, hb2, bR.only ho (by omega), hwr.trans (ho.below (Nat.le_refl _))⟩
        case measure => simp [intOf]; omega
    · have HR : Hid (form K.toNat ⟨A, B, C, D, K⟩ = y) := by
        have h1 := HF.out
        have h2 : K.toNat - k = 0 := by omega
        rw [h2] at h1
        exact h1.symm
      go_wp2
      rw [HR.out]
      exact bodyPost_ret (v := y.v) (by simp [results, Tryz.results16, go_sem, r0, r1, r2, r3, r4]) rfl ⟨rfl, (Below.trans hwr (by repeat (first | with_reducible exact Below.refl _ _ | with_reducible refine Below.alloc ?_ (by have := h02.size; have := hwr.size; simp <;> omega) _ | with_reducible refine below_dN ?_ _ | with_reducible refine Below.drew ?_ | (with_reducible refine Below.setCell ?_ (by simp <;> omega) _))))⟩

theorem least_any (A B C D K : Int) (w : World) (hx : Nm.wide ⟨A, B, C, D, K⟩) (hK : 0 ≤ K ∧ K ≤ 1000) :
    Calls Tryz.prog 16 #[nv A B C D K] w (Gives (Nm.least ⟨A, B, C, D, K⟩).v w) := by
  cases hz : Nm.zero ⟨A, B, C, D, K⟩
  · have : Nm.least ⟨A, B, C, D, K⟩ = form K.toNat ⟨A, B, C, D, K⟩ := by unfold Nm.least; rw [hz]; rfl
    rw [this]; exact least_some A B C D K w hx hK hz
  · have : Nm.least ⟨A, B, C, D, K⟩ = nul := by unfold Nm.least; rw [hz]; rfl
    rw [this]; exact least_none A B C D K w hz
end Go.Proofs.YtcdmcndjbajhlaaGreatDoor
namespace Go.Proofs.YtcdmcndjbajhlaaGreatDoor
open Go.RowKit

set_option maxHeartbeats 4000000 in
theorem settle_ok (A B C D K : Int) (r : Nm) (w : World) (hK : 0 ≤ K) (HL : Hid (∀ w, Calls Tryz.prog 16 #[nv A B C D K] w (Gives r.v w))) (HC : Hid (chk r.A r.B r.C r.D r.K = 0)) :
    Calls Tryz.prog 82 #[nv A B C D K] w (Gives (.tuple #[r.v, .int .i64 0]) w) := by
  go_enter Tryz.func82, Tryz.ntmps82
  go_wp2_with fail
  refine (HL.out _).mono ?_
  rintro e w1 ⟨rfl, hb⟩
  obtain ⟨hc, hf⟩ := bcell hb
  have hz0 : w.heap.size < w1.heap.size := by have := hb.size; simp at this; omega
  have hz1 : w.heap.size + 1 < w1.heap.size := by have := hb.size; simp at this; omega
  go_wp2_with fail
  refine (check_any _ _ _ _ _ _).mono ?_
  rw [HC.out]
  rintro e w2 ⟨rfl, hb2⟩
  obtain ⟨hc2, hf2⟩ := bcell hb2
  go_wp2_with fail
  exact bodyPost_ret (v := (.tuple #[r.v, .int .i64 0])) (by simp [results, Tryz.results82, go_sem, hc2, hc, hz0, hz1]) rfl ⟨rfl, (by repeat (first | with_reducible exact Below.refl _ _ | with_reducible refine below_al ?_ _ | with_reducible refine below_dN ?_ _ | with_reducible refine Below.drew ?_ | (with_reducible refine Below.setCell ?_ (by simp <;> omega) _) | (with_reducible refine below_via (by assumption) ?_)))⟩

set_option maxHeartbeats 4000000 in
theorem settle_bad (A B C D K : Int) (r : Nm) (w : World) (hK : 0 ≤ K) (HL : Hid (∀ w, Calls Tryz.prog 16 #[nv A B C D K] w (Gives r.v w))) (HC : (chk r.A r.B r.C r.D r.K != 0) = true) :
    Calls Tryz.prog 82 #[nv A B C D K] w (Gives (.tuple #[nul.v, .int .i64 8]) w) := by
  go_enter Tryz.func82, Tryz.ntmps82
  go_wp2_with fail
  refine (HL.out _).mono ?_
  rintro e w1 ⟨rfl, hb⟩
  obtain ⟨hc, hf⟩ := bcell hb
  have hz0 : w.heap.size < w1.heap.size := by have := hb.size; simp at this; omega
  have hz1 : w.heap.size + 1 < w1.heap.size := by have := hb.size; simp at this; omega
  go_wp2_with fail
  refine (check_any _ _ _ _ _ _).mono ?_
  rintro e w2 ⟨rfl, hb2⟩
  obtain ⟨hc2, hf2⟩ := bcell hb2
  go_wp2_with fail
  exact bodyPost_ret (v := (.tuple #[nul.v, .int .i64 8])) (by simp [results, Tryz.results82, go_sem, hc2, hc, hz0, hz1]) rfl ⟨rfl, (by repeat (first | with_reducible exact Below.refl _ _ | with_reducible refine below_al ?_ _ | with_reducible refine below_dN ?_ _ | with_reducible refine Below.drew ?_ | (with_reducible refine Below.setCell ?_ (by simp <;> omega) _) | (with_reducible refine below_via (by assumption) ?_)))⟩

theorem settle_any (A B C D K : Int) (w : World) (hx : Nm.wide ⟨A, B, C, D, K⟩) (hK : 0 ≤ K ∧ K ≤ 1000) :
    Calls Tryz.prog 82 #[nv A B C D K] w (Gives (.tuple #[(fitN ⟨A, B, C, D, K⟩).v, .int .i64 (fitE ⟨A, B, C, D, K⟩)]) w) := by
  have HL : Hid (∀ w, Calls Tryz.prog 16 #[nv A B C D K] w (Gives (Nm.least ⟨A, B, C, D, K⟩).v w)) := fun w => least_any A B C D K w hx hK
  unfold fitN fitE
  by_cases h : (Nm.least ⟨A, B, C, D, K⟩).chk = 0
  · rw [if_pos h, if_pos h]
    exact settle_ok A B C D K _ w hK.1 HL h
  · rw [if_neg h, if_neg h]
    exact settle_bad A B C D K _ w hK.1 HL (bne_iff_ne.2 h)

set_option maxHeartbeats 4000000 in
theorem checked_any (A B C D K a b c d k : Int) (w : World) :
    Calls Tryz.prog 78 #[nv A B C D K, nv a b c d k] w (Gives (.int .i64 (if chk A B C D K = 0 then chk a b c d k else chk A B C D K)) w) := by
  by_cases hc : chk A B C D K = 0
  · rw [if_pos hc]
    have HC := Lib.hid hc
    clear hc
    go_enter Tryz.func78, Tryz.ntmps78
    go_wp2_with fail
    refine (check_any _ _ _ _ _ _).mono ?_
    rw [HC.out]
    rintro e w1 ⟨rfl, hb⟩
    obtain ⟨hc, hf⟩ := bcell hb
    go_wp2_with fail
    refine (check_any _ _ _ _ _ _).mono ?_
    rintro e w2 ⟨rfl, hb2⟩
    go_wp2
    go_ret
    exact ⟨rfl, (by repeat (first | with_reducible exact Below.refl _ _ | with_reducible refine below_al ?_ _ | with_reducible refine below_dN ?_ _ | with_reducible refine Below.drew ?_ | (with_reducible refine Below.setCell ?_ (by simp <;> omega) _) | (with_reducible refine below_via (by assumption) ?_)))⟩
  · rw [if_neg hc]
    have hb0 : (chk A B C D K != 0) = true := bne_iff_ne.2 hc
    clear hc
    go_enter Tryz.func78, Tryz.ntmps78
    go_wp2_with fail
    refine (check_any _ _ _ _ _ _).mono ?_
    rintro e w1 ⟨rfl, hb⟩
    obtain ⟨hc, hf⟩ := bcell hb
    go_wp2
    go_ret
    exact ⟨rfl, (by repeat (first | with_reducible exact Below.refl _ _ | with_reducible refine below_al ?_ _ | with_reducible refine below_dN ?_ _ | with_reducible refine Below.drew ?_ | (with_reducible refine Below.setCell ?_ (by simp <;> omega) _) | (with_reducible refine below_via (by assumption) ?_)))⟩

/-- What is made of one number by way of f, settled: y is what f makes of a right number. -/
def aloneN (x y : Nm) : Nm := if x.chk = 0 then fitN y else nul
def aloneE (x y : Nm) : Int := if x.chk = 0 then fitE y else x.chk

set_option maxHeartbeats 4000000 in
theorem alone_ok (A B C D K : Int) (f : FuncId) (hfn : Enters f) (y : Nm) (w : World) (hf : Hid (∀ w, Calls Tryz.prog f #[nv A B C D K] w (Gives y.v w))) (hy : y.wide) (hK : 0 ≤ y.K ∧ y.K ≤ 1000) (HC : Hid (chk A B C D K = 0)) :
    Calls Tryz.prog 75 #[nv A B C D K, .func (.func f) #[] #[]] w (Gives (.tuple #[(fitN y).v, .int .i64 (fitE y)]) w) := by
  obtain ⟨r, hr⟩ : ∃ r, r = fitN y := ⟨_, rfl⟩
  obtain ⟨q, hq⟩ : ∃ q, q = fitE y := ⟨_, rfl⟩
  have HS : Hid (∀ w, Calls Tryz.prog 82 #[nv y.A y.B y.C y.D y.K] w (Gives (.tuple #[r.v, .int .i64 q]) w)) := by
    intro w; rw [hr, hq]; exact settle_any _ _ _ _ _ w hy hK
  rw [← hr, ← hq]
  clear hr hq
  unfold Enters at hfn
  go_enter Tryz.func75, Tryz.ntmps75
  go_wp2_with fail
  refine (check_any _ _ _ _ _ _).mono ?_
  rw [HC.out]
  rintro e w1 ⟨rfl, hb⟩
  obtain ⟨hc, hfz⟩ := bcell hb
  have hz0 : w.heap.size < w1.heap.size := by have := hb.size; simp at this; omega
  have hz1 : w.heap.size + 1 < w1.heap.size := by have := hb.size; simp at this; omega
  go_wp2_with fail
  refine (hf.out _).mono ?_
  rintro e w2 ⟨rfl, hb2⟩
  obtain ⟨hc2, hf2⟩ := bcell hb2
  have hz02 : w.heap.size < w2.heap.size := by have := hb2.size; omega
  have hz12 : w.heap.size + 1 < w2.heap.size := by have := hb2.size; omega
  go_wp2_with fail
  refine (HS.out _).mono ?_
  rintro e w3 ⟨rfl, hb3⟩
  obtain ⟨hc3, hf3⟩ := bcell hb3
  go_wp2_with fail
  exact bodyPost_ret (v := .tuple #[r.v, .int .i64 q]) (by simp [results, Tryz.results75, go_sem, hc3, hc2, hc, hz0, hz1, hz02, hz12]) rfl ⟨rfl, (by repeat (first | with_reducible exact Below.refl _ _ | with_reducible refine below_al ?_ _ | with_reducible refine below_dN ?_ _ | with_reducible refine Below.drew ?_ | (with_reducible refine Below.setCell ?_ (by simp <;> omega) _) | (with_reducible refine below_via (by assumption) ?_)))⟩

set_option maxHeartbeats 4000000 in
theorem alone_bad (A B C D K : Int) (f : FuncId) (w : World) (HC : (chk A B C D K != 0) = true) :
    Calls Tryz.prog 75 #[nv A B C D K, .func (.func f) #[] #[]] w (Gives (.tuple #[nul.v, .int .i64 (chk A B C D K)]) w) := by
  go_enter Tryz.func75, Tryz.ntmps75
  go_wp2_with fail
  refine (check_any _ _ _ _ _ _).mono ?_
  rintro e w1 ⟨rfl, hb⟩
  obtain ⟨hc, hfz⟩ := bcell hb
  go_wp2_with fail
  exact bodyPost_ret (v := .tuple #[nul.v, .int .i64 (chk A B C D K)]) (by simp [results, Tryz.results75, go_sem, hc]) rfl ⟨rfl, (by repeat (first | with_reducible exact Below.refl _ _ | with_reducible refine below_al ?_ _ | with_reducible refine below_dN ?_ _ | with_reducible refine Below.drew ?_ | (with_reducible refine Below.setCell ?_ (by simp <;> omega) _) | (with_reducible refine below_via (by assumption) ?_)))⟩

theorem alone_any (A B C D K : Int) (f : FuncId) (hfn : Enters f) (y : Nm) (w : World) (hf : chk A B C D K = 0 → (∀ w, Calls Tryz.prog f #[nv A B C D K] w (Gives y.v w)) ∧ y.wide ∧ 0 ≤ y.K ∧ y.K ≤ 1000) :
    Calls Tryz.prog 75 #[nv A B C D K, .func (.func f) #[] #[]] w (Gives (.tuple #[(aloneN ⟨A, B, C, D, K⟩ y).v, .int .i64 (aloneE ⟨A, B, C, D, K⟩ y)]) w) := by
  unfold aloneN aloneE
  by_cases h : Nm.chk ⟨A, B, C, D, K⟩ = 0
  · rw [if_pos h, if_pos h]
    obtain ⟨h1, h2, h3⟩ := hf h
    exact alone_ok A B C D K f hfn y w h1 h2 h3 h
  · rw [if_neg h, if_neg h]
    exact alone_bad A B C D K f w (bne_iff_ne.2 h)

/-- The first error of two numbers. -/
def chk2 (x y : Nm) : Int := if x.chk = 0 then y.chk else x.chk
def jointN (x y z : Nm) : Nm := if chk2 x y = 0 then fitN z else nul
def jointE (x y z : Nm) : Int := if chk2 x y = 0 then fitE z else chk2 x y

set_option maxHeartbeats 4000000 in
theorem joint_ok (A B C D K a b c d k : Int) (f : FuncId) (hfn : Enters f) (y : Nm) (w : World) (hf : Hid (∀ w, Calls Tryz.prog f #[nv A B C D K, nv a b c d k] w (Gives y.v w))) (hy : y.wide) (hK : 0 ≤ y.K ∧ y.K ≤ 1000) (HC : Hid (chk2 ⟨A, B, C, D, K⟩ ⟨a, b, c, d, k⟩ = 0)) :
    Calls Tryz.prog 74 #[.agg #[.func (.func f) #[] #[]], nv A B C D K, nv a b c d k] w (Gives (.tuple #[(fitN y).v, .int .i64 (fitE y)]) w) := by
  obtain ⟨r, hr⟩ : ∃ r, r = fitN y := ⟨_, rfl⟩
  obtain ⟨q, hq⟩ : ∃ q, q = fitE y := ⟨_, rfl⟩
  have HS : Hid (∀ w, Calls Tryz.prog 82 #[nv y.A y.B y.C y.D y.K] w (Gives (.tuple #[r.v, .int .i64 q]) w)) := by
    intro w; rw [hr, hq]; exact settle_any _ _ _ _ _ w hy hK
  rw [← hr, ← hq]
  clear hr hq
  have HC2 : Hid (∀ w, Calls Tryz.prog 78 #[nv A B C D K, nv a b c d k] w (Gives (.int .i64 0) w)) := by
    intro w
    have := checked_any A B C D K a b c d k w
    have h2 := HC.out
    unfold chk2 Nm.chk at h2
    dsimp only at h2
    rw [h2] at this
    exact this
  unfold Enters at hfn
  go_enter Tryz.func74, Tryz.ntmps74
  go_wp2_with fail
  refine (HC2.out _).mono ?_
  rintro e w1 ⟨rfl, hb⟩
  obtain ⟨hc, hfz⟩ := bcell hb
  have hz0 : w.heap.size < w1.heap.size := by have := hb.size; simp at this; omega
  have hz1 : w.heap.size + 1 < w1.heap.size := by have := hb.size; simp at this; omega
  have hz2 : w.heap.size + 1 + 1 < w1.heap.size := by have := hb.size; simp at this; omega
  have hz3 : w.heap.size + 1 + 1 + 1 < w1.heap.size := by have := hb.size; simp at this; omega
  go_wp2_with fail
  refine (hf.out _).mono ?_
  rintro e w2 ⟨rfl, hb2⟩
  obtain ⟨hc2, hf2⟩ := bcell hb2
  have hz02 : w.heap.size < w2.heap.size := by have := hb2.size; omega
  have hz12 : w.heap.size + 1 < w2.heap.size := by have := hb2.size; omega
  have hz22 : w.heap.size + 1 + 1 < w2.heap.size := by have := hb2.size; omega
  have hz32 : w.heap.size + 1 + 1 + 1 < w2.heap.size := by have := hb2.size; omega
  go_wp2_with fail
  refine (HS.out _).mono ?_
  rintro e w3 ⟨rfl, hb3⟩
  obtain ⟨hc3, hf3⟩ := bcell hb3
  go_wp2_with fail
  exact bodyPost_ret (v := .tuple #[r.v, .int .i64 q]) (by simp [results, Tryz.results74, go_sem, hc3, hc2, hc, hz0, hz1, hz2, hz3, hz02, hz12, hz22, hz32]) rfl ⟨rfl, (by repeat (first | with_reducible exact Below.refl _ _ | with_reducible refine below_al ?_ _ | with_reducible refine below_dN ?_ _ | with_reducible refine Below.drew ?_ | (with_reducible refine Below.setCell ?_ (by simp <;> omega) _) | (with_reducible refine below_via (by assumption) ?_)))⟩

set_option maxHeartbeats 4000000 in
theorem joint_bad (A B C D K a b c d k : Int) (f : FuncId) (w : World) (HC : Hid (chk2 ⟨A, B, C, D, K⟩ ⟨a, b, c, d, k⟩ ≠ 0)) :
    Calls Tryz.prog 74 #[.agg #[.func (.func f) #[] #[]], nv A B C D K, nv a b c d k] w (Gives (.tuple #[nul.v, .int .i64 (chk2 ⟨A, B, C, D, K⟩ ⟨a, b, c, d, k⟩)]) w) := by
  obtain ⟨q, hq⟩ : ∃ q, q = chk2 ⟨A, B, C, D, K⟩ ⟨a, b, c, d, k⟩ := ⟨_, rfl⟩
  have HC2 : Hid (∀ w, Calls Tryz.prog 78 #[nv A B C D K, nv a b c d k] w (Gives (.int .i64 q) w)) := by
    intro w; rw [hq]; exact checked_any A B C D K a b c d k w
  rw [← hq]
  have hq0 : (q != 0) = true := by rw [hq]; exact bne_iff_ne.2 HC.out
  clear hq
  go_enter Tryz.func74, Tryz.ntmps74
  go_wp2_with fail
  refine (HC2.out _).mono ?_
  rintro e w1 ⟨rfl, hb⟩
  obtain ⟨hc, hfz⟩ := bcell hb
  go_wp2_with fail
  exact bodyPost_ret (v := .tuple #[nul.v, .int .i64 q]) (by simp [results, Tryz.results74, go_sem, hc]) rfl ⟨rfl, (by repeat (first | with_reducible exact Below.refl _ _ | with_reducible refine below_al ?_ _ | with_reducible refine below_dN ?_ _ | with_reducible refine Below.drew ?_ | (with_reducible refine Below.setCell ?_ (by simp <;> omega) _) | (with_reducible refine below_via (by assumption) ?_)))⟩

theorem joint_any (A B C D K a b c d k : Int) (f : FuncId) (hfn : Enters f) (y : Nm) (w : World) (hf : chk2 ⟨A, B, C, D, K⟩ ⟨a, b, c, d, k⟩ = 0 → (∀ w, Calls Tryz.prog f #[nv A B C D K, nv a b c d k] w (Gives y.v w)) ∧ y.wide ∧ 0 ≤ y.K ∧ y.K ≤ 1000) :
    Calls Tryz.prog 74 #[.agg #[.func (.func f) #[] #[]], nv A B C D K, nv a b c d k] w (Gives (.tuple #[(jointN ⟨A, B, C, D, K⟩ ⟨a, b, c, d, k⟩ y).v, .int .i64 (jointE ⟨A, B, C, D, K⟩ ⟨a, b, c, d, k⟩ y)]) w) := by
  unfold jointN jointE
  by_cases h : chk2 ⟨A, B, C, D, K⟩ ⟨a, b, c, d, k⟩ = 0
  · rw [if_pos h, if_pos h]
    obtain ⟨h1, h2, h3⟩ := hf h
    exact joint_ok A B C D K a b c d k f hfn y w h1 h2 h3 h
  · rw [if_neg h, if_neg h]
    exact joint_bad A B C D K a b c d k f w h
end Go.Proofs.YtcdmcndjbajhlaaGreatDoor
namespace Go.Proofs.YtcdmcndjbajhlaaGreatDoor
open Go.RowKit
attribute [local go_sem] run_eql_arr4 run_field_num

set_option maxHeartbeats 4000000 in
theorem dotted_any (A B C D K : Int) (w : World) (hx : Nm.wide ⟨A, B, C, D, K⟩) (hK : 0 ≤ K) :
    Calls Tryz.prog 76 #[nv A B C D K] w (Gives (dotN ⟨A, B, C, D, K⟩).v w) := by
  have HW := Lib.hid hx
  obtain ⟨⟨hA1, hA2⟩, ⟨hB1, hB2⟩, ⟨hC1, hC2⟩, ⟨hD1, hD2⟩⟩ := hx
  dsimp only at *
  by_cases he : K % 2 = 0
  · have hd : dotN ⟨A, B, C, D, K⟩ = ⟨A, -B, C, -D, K⟩ := by unfold dotN; rw [if_pos he]
    rw [hd]
    have g : (K % 2 != 0) = false := by rw [he]; rfl
    clear hd he
    go_enter Tryz.func76, Tryz.ntmps76
    go_wp2
    exact bodyPost_ret (v := nv A (-B) C (-D) K) (by simp [results, Tryz.results76, go_sem]) rfl ⟨rfl, (by repeat (first | with_reducible exact Below.refl _ _ | with_reducible refine below_al ?_ _ | with_reducible refine below_dN ?_ _ | with_reducible refine Below.drew ?_ | (with_reducible refine Below.setCell ?_ (by simp <;> omega) _) | (with_reducible refine below_via (by assumption) ?_)))⟩
  · have hd : dotN ⟨A, B, C, D, K⟩ = ⟨-A, B, -C, D, K⟩ := by unfold dotN; rw [if_neg he]
    rw [hd]
    have g : (K % 2 != 0) = true := bne_iff_ne.2 he
    clear hd he
    go_enter Tryz.func76, Tryz.ntmps76
    go_wp2_with fail
    refine (negative_any _ _ _ _ _ _ ⟨hA1, hA2⟩ (by omega) ⟨hC1, hC2⟩ (by omega)).mono ?_
    simp only [Int.neg_neg]
    rintro e w1 ⟨rfl, hb⟩
    obtain ⟨hc, hf⟩ := bcell hb
    go_wp2
    exact bodyPost_ret (v := nv (-A) B (-C) D K) (by simp [results, Tryz.results76, go_sem, hc]) rfl ⟨rfl, (by repeat (first | with_reducible exact Below.refl _ _ | with_reducible refine below_al ?_ _ | with_reducible refine below_dN ?_ _ | with_reducible refine Below.drew ?_ | (with_reducible refine Below.setCell ?_ (by simp <;> omega) _) | (with_reducible refine below_via (by assumption) ?_)))⟩

set_option maxHeartbeats 4000000 in
theorem norm_any (A B C D K M : Int) (w : World) (hx : Nm.le ⟨A, B, C, D, K⟩ M) (hM : M * M ≤ 1152921504606846976) (hM2 : M ≤ 1152921504606846976) (hK : 0 ≤ K ∧ K ≤ 1000) :
    Calls Tryz.prog 77 #[nv A B C D K] w (Gives (normN ⟨A, B, C, D, K⟩).v w) := by
  have HX := Lib.hid hx
  have HM := Lib.hid hM
  have HK := Lib.hid hK
  have hy : Nm.le ⟨A, -D, -C, -B, K⟩ M := by unfold Nm.le at *; dsimp only at *; omega
  have HY := Lib.hid hy
  have hw := le_wide hx (by omega)
  have HW := Lib.hid hw
  clear hx hM hK hy hw
  have HT : Hid (∀ w, Calls Tryz.prog 73 #[nv A B C D K, nv A (-D) (-C) (-B) K] w (Gives (normN ⟨A, B, C, D, K⟩).v w)) := by
    intro w
    have hk := HK.out
    exact times_any A B C D K A (-D) (-C) (-B) K M M w HX.out HY.out HM.out (by omega) (by omega)
  generalize normN ⟨A, B, C, D, K⟩ = r at *
  go_enter Tryz.func77, Tryz.ntmps77
  have HJ : Hid (∀ w, Calls Tryz.prog 93 #[nv A B C D K] w (Gives (nv A (-D) (-C) (-B) K) w)) := fun w => conjugate_any _ _ _ _ _ _ HW.out.2.1 HW.out.2.2.1 HW.out.2.2.2
  go_wp2_with fail
  go_region_with (first | (go_at_call 93; refine (HJ.out _).mono ?_; rintro e w1 ⟨rfl, hb⟩; obtain ⟨hc, hf⟩ := bcell hb; have hz := hb.size; simp at hz; have hz0 : w.heap.size < w1.heap.size := (by omega); have hz1 : w.heap.size + 1 < w1.heap.size := (by omega)) | (go_at_call 73; refine (HT.out _).mono ?_; rintro e w2 ⟨rfl, hb2⟩; obtain ⟨hc2, hf2⟩ := bcell hb2))
  all_goals
    go_wp2
    exact bodyPost_ret (v := r.v) (by simp [results, Tryz.results77, go_sem, hc2, hc, hz0, hz1]) rfl ⟨rfl, (by repeat (first | with_reducible exact Below.refl _ _ | with_reducible refine below_al ?_ _ | with_reducible refine below_dN ?_ _ | with_reducible refine Below.drew ?_ | (with_reducible refine Below.setCell ?_ (by simp <;> omega) _) | (with_reducible refine below_via (by assumption) ?_)))⟩

set_option maxHeartbeats 4000000 in
theorem Least_any (A B C D K : Int) (w : World) :
    Calls Tryz.prog 31 #[nv A B C D K] w (Gives (.tuple #[(if chk A B C D K = 0 then Nm.least ⟨A, B, C, D, K⟩ else nul).v, .int .i64 (chk A B C D K)]) w) := by
  by_cases h : chk A B C D K = 0
  · rw [if_pos h, h]
    have hr := chk_ok h
    have HL : Hid (∀ w, Calls Tryz.prog 16 #[nv A B C D K] w (Gives (Nm.least ⟨A, B, C, D, K⟩).v w)) := fun w => least_any A B C D K w (by unfold Nm.wide; dsimp only; omega) (by omega)
    have HC := Lib.hid h
    clear h hr
    generalize Nm.least ⟨A, B, C, D, K⟩ = r at *
    go_enter Tryz.func31, Tryz.ntmps31
    go_wp2_with fail
    refine (check_any _ _ _ _ _ _).mono ?_
    rw [HC.out]
    rintro e w1 ⟨rfl, hb⟩
    obtain ⟨hc, hf⟩ := bcell hb
    have hz0 : w.heap.size < w1.heap.size := by have := hb.size; simp at this; omega
    have hz1 : w.heap.size + 1 < w1.heap.size := by have := hb.size; simp at this; omega
    go_wp2_with fail
    refine (HL.out _).mono ?_
    rintro e w2 ⟨rfl, hb2⟩
    obtain ⟨hc2, hf2⟩ := bcell hb2
    dsimp only [Nm.v, nv]
    go_wp2_with fail
    exact bodyPost_ret (v := .tuple #[r.v, .int .i64 0]) (by simp [results, Tryz.results31, go_sem, hc2, hc, hz0, hz1]) rfl ⟨rfl, (by repeat (first | with_reducible exact Below.refl _ _ | with_reducible refine below_al ?_ _ | with_reducible refine below_dN ?_ _ | with_reducible refine Below.drew ?_ | (with_reducible refine Below.setCell ?_ (by simp <;> omega) _) | (with_reducible refine below_via (by assumption) ?_)))⟩
  · rw [if_neg h]
    have hb0 : (chk A B C D K != 0) = true := bne_iff_ne.2 h
    clear h
    have HC : Hid (∀ w, Calls Tryz.prog 15 #[nv A B C D K] w (Gives (.int .i64 (chk A B C D K)) w)) := fun w => check_any A B C D K w
    generalize chk A B C D K = q at *
    go_enter Tryz.func31, Tryz.ntmps31
    go_wp2_with fail
    refine (HC.out _).mono ?_
    rintro e w1 ⟨rfl, hb⟩
    obtain ⟨hc, hf⟩ := bcell hb
    go_wp2_with fail
    exact bodyPost_ret (v := .tuple #[nul.v, .int .i64 q]) (by simp [results, Tryz.results31, go_sem, hc]) rfl ⟨rfl, (by repeat (first | with_reducible exact Below.refl _ _ | with_reducible refine below_al ?_ _ | with_reducible refine below_dN ?_ _ | with_reducible refine Below.drew ?_ | (with_reducible refine Below.setCell ?_ (by simp <;> omega) _) | (with_reducible refine below_via (by assumption) ?_)))⟩
end Go.Proofs.YtcdmcndjbajhlaaGreatDoor
namespace Go.Proofs.YtcdmcndjbajhlaaGreatDoor
open Go.RowKit

theorem right_le {A B C D K : Int} (h : chk A B C D K = 0) : Nm.le ⟨A, B, C, D, K⟩ 1073741824 := by
  have := chk_ok h
  unfold Nm.le; dsimp only; omega
theorem right_wide {A B C D K : Int} (h : chk A B C D K = 0) : Nm.wide ⟨A, B, C, D, K⟩ := le_wide (right_le h) (by omega)

theorem ent_negative : Enters 92 := enters_of (by kernel_rfl)
theorem ent_conjugate : Enters 93 := enters_of (by kernel_rfl)
theorem ent_dotted : Enters 76 := enters_of (by kernel_rfl)
theorem ent_norm : Enters 77 := enters_of (by kernel_rfl)
theorem ent_times : Enters 73 := enters_of (by kernel_rfl)

set_option maxHeartbeats 1000000 in
theorem Neg_any (A B C D K : Int) (w : World) :
    Calls Tryz.prog 51 #[nv A B C D K] w (Gives (.tuple #[(aloneN ⟨A, B, C, D, K⟩ (negN ⟨A, B, C, D, K⟩)).v, .int .i64 (aloneE ⟨A, B, C, D, K⟩ (negN ⟨A, B, C, D, K⟩))]) w) := by
  have HA : Hid (∀ w, Calls Tryz.prog 75 #[nv A B C D K, .func (.func 92) #[] #[]] w (Gives (.tuple #[(aloneN ⟨A, B, C, D, K⟩ (negN ⟨A, B, C, D, K⟩)).v, .int .i64 (aloneE ⟨A, B, C, D, K⟩ (negN ⟨A, B, C, D, K⟩))]) w)) := by
    intro w
    refine alone_any A B C D K _ ent_negative _ w fun h => ?_
    have hw := right_wide h
    have hl := right_le h
    have hk := chk_ok h
    refine ⟨fun w => negative_any A B C D K w hw.1 hw.2.1 hw.2.2.1 hw.2.2.2, ?_, by simp only [negN]; omega⟩
    unfold Nm.wide negN at *; dsimp only at *; omega
  generalize aloneN ⟨A, B, C, D, K⟩ (negN ⟨A, B, C, D, K⟩) = r at *
  generalize aloneE ⟨A, B, C, D, K⟩ (negN ⟨A, B, C, D, K⟩) = q at *
  go_enter Tryz.func51, Tryz.ntmps51
  go_wp2_with fail
  refine (HA.out _).mono ?_
  rintro e w1 ⟨rfl, hb⟩
  obtain ⟨hc, hf⟩ := bcell hb
  go_wp2_with fail
  exact bodyPost_ret (v := .tuple #[r.v, .int .i64 q]) (by simp [results, Tryz.results51, go_sem, hc]) rfl ⟨rfl, (by repeat (first | with_reducible exact Below.refl _ _ | with_reducible refine below_al ?_ _ | with_reducible refine below_dN ?_ _ | with_reducible refine Below.drew ?_ | (with_reducible refine Below.setCell ?_ (by simp <;> omega) _) | (with_reducible refine below_via (by assumption) ?_)))⟩

set_option maxHeartbeats 1000000 in
theorem Conj_any (A B C D K : Int) (w : World) :
    Calls Tryz.prog 52 #[nv A B C D K] w (Gives (.tuple #[(aloneN ⟨A, B, C, D, K⟩ (conjN ⟨A, B, C, D, K⟩)).v, .int .i64 (aloneE ⟨A, B, C, D, K⟩ (conjN ⟨A, B, C, D, K⟩))]) w) := by
  have HA : Hid (∀ w, Calls Tryz.prog 75 #[nv A B C D K, .func (.func 93) #[] #[]] w (Gives (.tuple #[(aloneN ⟨A, B, C, D, K⟩ (conjN ⟨A, B, C, D, K⟩)).v, .int .i64 (aloneE ⟨A, B, C, D, K⟩ (conjN ⟨A, B, C, D, K⟩))]) w)) := by
    intro w
    refine alone_any A B C D K _ ent_conjugate _ w fun h => ?_
    have hw := right_wide h
    have hl := right_le h
    have hk := chk_ok h
    refine ⟨fun w => conjugate_any A B C D K w hw.2.1 hw.2.2.1 hw.2.2.2, ?_, by simp only [conjN]; omega⟩
    unfold Nm.wide conjN at *; dsimp only at *; omega
  generalize aloneN ⟨A, B, C, D, K⟩ (conjN ⟨A, B, C, D, K⟩) = r at *
  generalize aloneE ⟨A, B, C, D, K⟩ (conjN ⟨A, B, C, D, K⟩) = q at *
  go_enter Tryz.func52, Tryz.ntmps52
  go_wp2_with fail
  refine (HA.out _).mono ?_
  rintro e w1 ⟨rfl, hb⟩
  obtain ⟨hc, hf⟩ := bcell hb
  go_wp2_with fail
  exact bodyPost_ret (v := .tuple #[r.v, .int .i64 q]) (by simp [results, Tryz.results52, go_sem, hc]) rfl ⟨rfl, (by repeat (first | with_reducible exact Below.refl _ _ | with_reducible refine below_al ?_ _ | with_reducible refine below_dN ?_ _ | with_reducible refine Below.drew ?_ | (with_reducible refine Below.setCell ?_ (by simp <;> omega) _) | (with_reducible refine below_via (by assumption) ?_)))⟩

set_option maxHeartbeats 1000000 in
theorem Dot_any (A B C D K : Int) (w : World) :
    Calls Tryz.prog 33 #[nv A B C D K] w (Gives (.tuple #[(aloneN ⟨A, B, C, D, K⟩ (dotN ⟨A, B, C, D, K⟩)).v, .int .i64 (aloneE ⟨A, B, C, D, K⟩ (dotN ⟨A, B, C, D, K⟩))]) w) := by
  have HA : Hid (∀ w, Calls Tryz.prog 75 #[nv A B C D K, .func (.func 76) #[] #[]] w (Gives (.tuple #[(aloneN ⟨A, B, C, D, K⟩ (dotN ⟨A, B, C, D, K⟩)).v, .int .i64 (aloneE ⟨A, B, C, D, K⟩ (dotN ⟨A, B, C, D, K⟩))]) w)) := by
    intro w
    refine alone_any A B C D K _ ent_dotted _ w fun h => ?_
    have hw := right_wide h
    have hl := right_le h
    have hk := chk_ok h
    refine ⟨fun w => dotted_any A B C D K w hw hk.1, ?_, ?_⟩
    · unfold dotN; split <;> (unfold Nm.wide at *; dsimp only at *; omega)
    · unfold dotN; split <;> (dsimp only; omega)
  generalize aloneN ⟨A, B, C, D, K⟩ (dotN ⟨A, B, C, D, K⟩) = r at *
  generalize aloneE ⟨A, B, C, D, K⟩ (dotN ⟨A, B, C, D, K⟩) = q at *
  go_enter Tryz.func33, Tryz.ntmps33
  go_wp2_with fail
  refine (HA.out _).mono ?_
  rintro e w1 ⟨rfl, hb⟩
  obtain ⟨hc, hf⟩ := bcell hb
  go_wp2_with fail
  exact bodyPost_ret (v := .tuple #[r.v, .int .i64 q]) (by simp [results, Tryz.results33, go_sem, hc]) rfl ⟨rfl, (by repeat (first | with_reducible exact Below.refl _ _ | with_reducible refine below_al ?_ _ | with_reducible refine below_dN ?_ _ | with_reducible refine Below.drew ?_ | (with_reducible refine Below.setCell ?_ (by simp <;> omega) _) | (with_reducible refine below_via (by assumption) ?_)))⟩

set_option maxHeartbeats 1000000 in
theorem Norm_any (A B C D K : Int) (w : World) :
    Calls Tryz.prog 34 #[nv A B C D K] w (Gives (.tuple #[(aloneN ⟨A, B, C, D, K⟩ (normN ⟨A, B, C, D, K⟩)).v, .int .i64 (aloneE ⟨A, B, C, D, K⟩ (normN ⟨A, B, C, D, K⟩))]) w) := by
  have HA : Hid (∀ w, Calls Tryz.prog 75 #[nv A B C D K, .func (.func 77) #[] #[]] w (Gives (.tuple #[(aloneN ⟨A, B, C, D, K⟩ (normN ⟨A, B, C, D, K⟩)).v, .int .i64 (aloneE ⟨A, B, C, D, K⟩ (normN ⟨A, B, C, D, K⟩))]) w)) := by
    intro w
    refine alone_any A B C D K _ ent_norm _ w fun h => ?_
    have hw := right_wide h
    have hl := right_le h
    have hk := chk_ok h
    refine ⟨fun w => norm_any A B C D K 1073741824 w hl (by omega) (by omega) (by omega), ?_, ?_⟩
    · have hy : (conjN ⟨A, B, C, D, K⟩).le 1073741824 := by unfold Nm.le conjN at *; dsimp only at *; omega
      exact le_wide (mulN_le hl hy) (by omega)
    · simp only [normN, mulN, conjN]; omega
  generalize aloneN ⟨A, B, C, D, K⟩ (normN ⟨A, B, C, D, K⟩) = r at *
  generalize aloneE ⟨A, B, C, D, K⟩ (normN ⟨A, B, C, D, K⟩) = q at *
  go_enter Tryz.func34, Tryz.ntmps34
  go_wp2_with fail
  refine (HA.out _).mono ?_
  rintro e w1 ⟨rfl, hb⟩
  obtain ⟨hc, hf⟩ := bcell hb
  go_wp2_with fail
  exact bodyPost_ret (v := .tuple #[r.v, .int .i64 q]) (by simp [results, Tryz.results34, go_sem, hc]) rfl ⟨rfl, (by repeat (first | with_reducible exact Below.refl _ _ | with_reducible refine below_al ?_ _ | with_reducible refine below_dN ?_ _ | with_reducible refine Below.drew ?_ | (with_reducible refine Below.setCell ?_ (by simp <;> omega) _) | (with_reducible refine below_via (by assumption) ?_)))⟩

set_option maxHeartbeats 1000000 in
theorem Mul_any (A B C D K a b c d k : Int) (w : World) :
    Calls Tryz.prog 32 #[nv A B C D K, nv a b c d k] w (Gives (.tuple #[(jointN ⟨A, B, C, D, K⟩ ⟨a, b, c, d, k⟩ (mulN ⟨A, B, C, D, K⟩ ⟨a, b, c, d, k⟩)).v, .int .i64 (jointE ⟨A, B, C, D, K⟩ ⟨a, b, c, d, k⟩ (mulN ⟨A, B, C, D, K⟩ ⟨a, b, c, d, k⟩))]) w) := by
  have HA : Hid (∀ w, Calls Tryz.prog 74 #[.agg #[.func (.func 73) #[] #[]], nv A B C D K, nv a b c d k] w (Gives (.tuple #[(jointN ⟨A, B, C, D, K⟩ ⟨a, b, c, d, k⟩ (mulN ⟨A, B, C, D, K⟩ ⟨a, b, c, d, k⟩)).v, .int .i64 (jointE ⟨A, B, C, D, K⟩ ⟨a, b, c, d, k⟩ (mulN ⟨A, B, C, D, K⟩ ⟨a, b, c, d, k⟩))]) w)) := by
    intro w
    refine joint_any A B C D K a b c d k _ ent_times _ w fun h => ?_
    have h1 : chk A B C D K = 0 := by
      unfold chk2 at h; split at h <;> assumption
    have h2 : chk a b c d k = 0 := by
      have h1' : Nm.chk ⟨A, B, C, D, K⟩ = 0 := h1
      unfold chk2 at h; rw [if_pos h1'] at h; exact h
    have hk1 := chk_ok h1
    have hk2 := chk_ok h2
    refine ⟨fun w => times_any A B C D K a b c d k 1073741824 1073741824 w (right_le h1) (right_le h2) (by omega) (by omega) (by omega), ?_, ?_⟩
    · exact le_wide (mulN_le (right_le h1) (right_le h2)) (by omega)
    · simp only [mulN]; omega
  generalize jointN ⟨A, B, C, D, K⟩ ⟨a, b, c, d, k⟩ (mulN ⟨A, B, C, D, K⟩ ⟨a, b, c, d, k⟩) = r at *
  generalize jointE ⟨A, B, C, D, K⟩ ⟨a, b, c, d, k⟩ (mulN ⟨A, B, C, D, K⟩ ⟨a, b, c, d, k⟩) = q at *
  go_enter Tryz.func32, Tryz.ntmps32
  go_wp2_with fail
  refine (HA.out _).mono ?_
  rintro e w1 ⟨rfl, hb⟩
  obtain ⟨hc, hf⟩ := bcell hb
  go_wp2_with fail
  exact bodyPost_ret (v := .tuple #[r.v, .int .i64 q]) (by simp [results, Tryz.results32, go_sem, hc]) rfl ⟨rfl, (by repeat (first | with_reducible exact Below.refl _ _ | with_reducible refine below_al ?_ _ | with_reducible refine below_dN ?_ _ | with_reducible refine Below.drew ?_ | (with_reducible refine Below.setCell ?_ (by simp <;> omega) _) | (with_reducible refine below_via (by assumption) ?_)))⟩
end Go.Proofs.YtcdmcndjbajhlaaGreatDoor
