
/- Contracts of package ring: lifting. -/
import Derived.Test.YtjalpolciofphaaDoorWb
set_option linter.all false
set_option maxRecDepth 100000
namespace Go.Proofs.YtjalpolciofphaaDoor
open Go.RowKit

def Lifted (y : Nm) (b T : Nat) (w : World) (e : Ending) (w' : World) : Prop :=
  e = .returned (.tuple #[]) ∧ Only b w w' ∧ Box w' b T y

set_option maxHeartbeats 1000000 in
theorem lift_none (x : Nm) (k : Int) (b T : Nat) (w : World) (hK : -1000 ≤ x.K ∧ x.K ≤ 1000) (hk : -1000 ≤ k ∧ k ≤ 1000) (hb : Box w b T x) (hle : k ≤ x.K) :
    Calls Tryd.prog 77 #[.pointer (some ⟨b, 0, none⟩), .int .i64 k] w (Lifted x b T w) := by
  obtain ⟨A, B, C, D, K⟩ := x
  obtain ⟨h0, h1, h2, h3, h4⟩ := hb.cell
  have HB := Lib.hid hb
  clear hb
  dsimp only at *
  obtain ⟨hK1, hK2⟩ := hK
  obtain ⟨hk1, hk2⟩ := hk
  go_enter Tryd.func77, Tryd.ntmps77
  go_wp2
  go_end0
  exact ⟨rfl, (by repeat (first | with_reducible exact Only.refl _ _ | with_reducible refine Only.set ?_ _ _ | with_reducible refine Only.dN ?_ _ | with_reducible refine Only.drew ?_)), HB.out⟩

set_option maxHeartbeats 4000000 in
theorem lift_even (x : Nm) (k : Int) (b T : Nat) (w : World) (hx : x.le 1073741824) (hK : -1000 ≤ x.K ∧ x.K ≤ 1000) (hk : -1000 ≤ k ∧ k ≤ 1000) (hb : Box w b T x) (hlt : x.K < k) (h60 : k - x.K ≤ 60) (he : (k - x.K) % 2 = 0) :
    Calls Tryd.prog 77 #[.pointer (some ⟨b, 0, none⟩), .int .i64 k] w (Lifted (upN (k - x.K).toNat x) b T w) := by
  obtain ⟨A, B, C, D, K⟩ := x
  obtain ⟨h0, h1, h2, h3, h4⟩ := hb.cell
  obtain ⟨f0, f1, f2, f3, f4⟩ := hb.free
  have HB := Lib.hid hb
  clear hb
  dsimp only at *
  obtain ⟨hK1, hK2⟩ := hK
  obtain ⟨hk1, hk2⟩ := hk
  have HX := Lib.hid hx
  clear hx
  have g1 : ((k - K) % 2 != 0) = false := by rw [he]; rfl
  have HE := Lib.hid he
  clear he
  go_enter Tryd.func77, Tryd.ntmps77
  have t1 : 0 ≤ (k - K) / 2 := by omega
  have t2 : (k - K) / 2 ≤ 63 := by omega
  go_wp2
  go_region
  go_wp2
  go_end0
  have hn : (k - K).toNat = 2 * ((k - K) / 2).toNat := by have := HE.out; omega
  have hu := upN_even ((k - K) / 2).toNat ⟨A, B, C, D, K⟩
  rw [← hn] at hu
  have hl := upN_le (k - K).toNat (by omega) HX.out
  have hKK := upN_K (k - K).toNat ⟨A, B, C, D, K⟩
  dsimp only at hKK
  have e5 : (upN (k - K).toNat ⟨A, B, C, D, K⟩).K = k := by rw [hKK]; omega
  unfold Nm.le at hl
  have e1 : wrap64 (A * 2 ^ ((k - K) / 2).toNat) = (upN (k - K).toNat ⟨A, B, C, D, K⟩).A := by
    have : (upN (k - K).toNat ⟨A, B, C, D, K⟩).A = A * 2 ^ ((k - K) / 2).toNat := by rw [hu]; rfl
    rw [← this]; exact wr_in (by omega)
  have e2 : wrap64 (B * 2 ^ ((k - K) / 2).toNat) = (upN (k - K).toNat ⟨A, B, C, D, K⟩).B := by
    have : (upN (k - K).toNat ⟨A, B, C, D, K⟩).B = B * 2 ^ ((k - K) / 2).toNat := by rw [hu]; rfl
    rw [← this]; exact wr_in (by omega)
  have e3 : wrap64 (C * 2 ^ ((k - K) / 2).toNat) = (upN (k - K).toNat ⟨A, B, C, D, K⟩).C := by
    have : (upN (k - K).toNat ⟨A, B, C, D, K⟩).C = C * 2 ^ ((k - K) / 2).toNat := by rw [hu]; rfl
    rw [← this]; exact wr_in (by omega)
  have e4 : wrap64 (D * 2 ^ ((k - K) / 2).toNat) = (upN (k - K).toNat ⟨A, B, C, D, K⟩).D := by
    have : (upN (k - K).toNat ⟨A, B, C, D, K⟩).D = D * 2 ^ ((k - K) / 2).toNat := by rw [hu]; rfl
    rw [← this]; exact wr_in (by omega)
  refine ⟨rfl, (by repeat (first | with_reducible exact Only.refl _ _ | with_reducible refine Only.set ?_ _ _ | with_reducible refine Only.dN ?_ _ | with_reducible refine Only.drew ?_)), ?_⟩
  unfold Box
  rw [← e1, ← e2, ← e3, ← e4, e5]
  exact heap_set (heap_set (heap_set (heap_set (heap_set HB.out))))

end Go.Proofs.YtjalpolciofphaaDoor
