
/- Rows of bits: weights. -/
import Derived.Test.YtpnancidgobehaaDoorVh
import Derived.Test.YtpnancidgobehaaDoorVs
set_option linter.all false
set_option maxRecDepth 100000
namespace Go.Proofs.YtpnancidgobehaaDoor
open Go.RowKit

theorem rep85 : rep 85 8 = 6148914691236517205 := by decide
theorem rep51 : rep 51 8 = 3689348814741910323 := by decide
theorem rep15 : rep 15 8 = 1085102592571150095 := by decide
theorem and_u64 (a m : Nat) (hm : m < 18446744073709551616) (ha : a < 18446744073709551616) : Go.bits .and .u64 (a : Int) (m : Int) = ((a &&& m : Nat) : Int) := u64_and_nat a m ha hm
theorem wrap_small {a : Nat} (h : a < 18446744073709551616) : IntKind.u64.wrap (a : Int) = (a : Int) := by
  rw [IntKind.wrap_u64]; omega
theorem pop_w1 {x : Nat} (hx : x < 18446744073709551616) : IntKind.u64.wrap (Go.bits .and .u64 ((x : Int) / 2) 6148914691236517205 + Go.bits .and .u64 (x : Int) 6148914691236517205) = ((st1 8 x : Nat) : Int) ∧ st1 8 x ≤ 12297829382473034410 := by
  have e : (x : Int) / 2 = ((x / 2 : Nat) : Int) := by omega
  have h1 : (x / 2) &&& 6148914691236517205 ≤ 6148914691236517205 := Nat.and_le_right
  have h2 : x &&& 6148914691236517205 ≤ 6148914691236517205 := Nat.and_le_right
  have h3 : Go.bits .and .u64 ((x / 2 : Nat) : Int) 6148914691236517205 = (((x / 2) &&& 6148914691236517205 : Nat) : Int) := and_u64 (x / 2) 6148914691236517205 (by omega) (by omega)
  have h4 : Go.bits .and .u64 (x : Int) 6148914691236517205 = ((x &&& 6148914691236517205 : Nat) : Int) := and_u64 x 6148914691236517205 (by omega) (by omega)
  have hs : st1 8 x = ((x / 2) &&& 6148914691236517205) + (x &&& 6148914691236517205) := by unfold st1; rw [rep85, Nat.shiftRight_eq_div_pow]
  rw [e]
  rw [h3, h4, hs]
  exact ⟨by rw [← Int.natCast_add]; exact wrap_small (by omega), by omega⟩
theorem pop_w2 {x : Nat} (hx : x < 18446744073709551616) : IntKind.u64.wrap (Go.bits .and .u64 ((x : Int) / 4) 3689348814741910323 + Go.bits .and .u64 (x : Int) 3689348814741910323) = ((st2 8 x : Nat) : Int) ∧ st2 8 x ≤ 7378697629483820646 := by
  have e : (x : Int) / 4 = ((x / 4 : Nat) : Int) := by omega
  have h1 : (x / 4) &&& 3689348814741910323 ≤ 3689348814741910323 := Nat.and_le_right
  have h2 : x &&& 3689348814741910323 ≤ 3689348814741910323 := Nat.and_le_right
  have h3 : Go.bits .and .u64 ((x / 4 : Nat) : Int) 3689348814741910323 = (((x / 4) &&& 3689348814741910323 : Nat) : Int) := and_u64 (x / 4) 3689348814741910323 (by omega) (by omega)
  have h4 : Go.bits .and .u64 (x : Int) 3689348814741910323 = ((x &&& 3689348814741910323 : Nat) : Int) := and_u64 x 3689348814741910323 (by omega) (by omega)
  have hs : st2 8 x = ((x / 4) &&& 3689348814741910323) + (x &&& 3689348814741910323) := by unfold st2; rw [rep51, Nat.shiftRight_eq_div_pow]
  rw [e]
  rw [h3, h4, hs]
  exact ⟨by rw [← Int.natCast_add]; exact wrap_small (by omega), by omega⟩
theorem pop_w3 {x : Nat} (hx : x ≤ 7378697629483820646) : Go.bits .and .u64 (IntKind.u64.wrap ((x : Int) / 16 + (x : Int))) 1085102592571150095 = ((st3 8 x : Nat) : Int) ∧ st3 8 x ≤ 1085102592571150095 := by
  have e : (x : Int) / 16 + (x : Int) = ((x / 16 + x : Nat) : Int) := by omega
  have h1 : (x / 16 + x) &&& 1085102592571150095 ≤ 1085102592571150095 := Nat.and_le_right
  have h3 : Go.bits .and .u64 ((x / 16 + x : Nat) : Int) 1085102592571150095 = (((x / 16 + x) &&& 1085102592571150095 : Nat) : Int) := and_u64 (x / 16 + x) 1085102592571150095 (by omega) (by omega)
  have hs : st3 8 x = (x / 16 + x) &&& 1085102592571150095 := by unfold st3; rw [rep15, Nat.shiftRight_eq_div_pow]
  rw [e, wrap_small (by omega)]
  rw [h3, hs]
  exact ⟨rfl, h1⟩
set_option maxHeartbeats 1000000 in
theorem bt_OnesCount64 (x : Nat) (hx : x < 18446744073709551616) (w : World) : Calls Tryd.prog 89 #[.int .u64 (x : Int)] w (Gives (.int .i64 ((popF 64 x : Nat) : Int)) w) := by
  have hp := pop64 hx
  obtain ⟨e1, l1⟩ := pop_w1 hx
  generalize st1 8 x = a at *
  obtain ⟨e2, l2⟩ := pop_w2 (x := a) (by omega)
  generalize st2 8 a = b at *
  obtain ⟨e3, l3⟩ := pop_w3 l2
  generalize st3 8 b = c at *
  unfold tail64 at hp
  dsimp only at hp
  have e4 : IntKind.u64.wrap ((c : Int) + (c : Int) / 256) = ((c + c / 256 : Nat) : Int) := by
    rw [show (c : Int) + (c : Int) / 256 = ((c + c / 256 : Nat) : Int) by omega]
    exact wrap_small (by omega)
  have l4 : c + c / 256 < 2305843009213693952 := by omega
  generalize c + c / 256 = d at *
  have e5 : IntKind.u64.wrap ((d : Int) + (d : Int) / 65536) = ((d + d / 65536 : Nat) : Int) := by
    rw [show (d : Int) + (d : Int) / 65536 = ((d + d / 65536 : Nat) : Int) by omega]
    exact wrap_small (by omega)
  have l5 : d + d / 65536 < 2458843009213693952 := by omega
  generalize d + d / 65536 = f at *
  have e6 : IntKind.u64.wrap ((f : Int) + (f : Int) / 4294967296) = ((f + f / 4294967296 : Nat) : Int) := by
    rw [show (f : Int) + (f : Int) / 4294967296 = ((f + f / 4294967296 : Nat) : Int) by omega]
    exact wrap_small (by omega)
  have l6 : f + f / 4294967296 < 2558843009213693952 := by omega
  generalize f + f / 4294967296 = g at *
  have e7 : Go.bits .and .i64 (g : Int) 127 = ((popF 64 x : Nat) : Int) := by
    have : Go.bits .and .i64 (g : Int) 127 = ((g &&& 127 : Nat) : Int) := i64_and_nat g 127 (by omega) (by omega)
    rw [this, ← hp]
    congr 1
    exact Nat.and_two_pow_sub_one_eq_mod _ 7
  clear hp l1 l2 l3 l4 l5
  go_enter Tryd.func89, Tryd.ntmps89
  go_wp2
  go_ret
  exact ⟨rfl, Below.refl _ _⟩
theorem bt_OnesCount (x : Nat) (hx : x < 18446744073709551616) (w : World) : Calls Tryd.prog 83 #[.int .u64 (x : Int)] w (Gives (.int .i64 ((popF 64 x : Nat) : Int)) w) := by
  have H1 : Hid (∀ w, Calls Tryd.prog 89 #[.int .u64 (x : Int)] w (Gives (.int .i64 ((popF 64 x : Nat) : Int)) w)) := fun w => bt_OnesCount64 x hx w
  go_enter Tryd.func83, Tryd.ntmps83
  go_wp2_with fail
  refine (H1.out _).mono ?_
  rintro e w1 ⟨rfl, hb1⟩
  go_wp2_with fail
  go_ret
  exact ⟨rfl, hb1⟩
/-- How many bits of a number are 1. -/
def weightM (x : Nat) : Nat := popF 64 x
theorem bt_weight (x : Nat) (hx : x < 9223372036854775808) (w : World) : Calls Tryd.prog 61 #[.int .i64 (x : Int)] w (Gives (.int .i64 ((weightM x : Nat) : Int)) w) := by
  have H1 : Hid (∀ w, Calls Tryd.prog 83 #[.int .u64 (x : Int)] w (Gives (.int .i64 ((weightM x : Nat) : Int)) w)) := fun w => bt_OnesCount x (by omega) w
  go_enter Tryd.func61, Tryd.ntmps61
  go_wp2_with fail
  refine (H1.out _).mono ?_
  rintro e w1 ⟨rfl, hb1⟩
  go_wp2_with fail
  go_ret
  exact ⟨rfl, hb1⟩
def lighterM (x y : Nat) : Bool := decide (weightM x < weightM y ∨ (weightM x = weightM y ∧ x < y))
set_option maxHeartbeats 1000000 in
theorem bt_lighter (x y : Nat) (hx : x < 9223372036854775808) (hy : y < 9223372036854775808) (w : World) : Calls Tryd.prog 67 #[.int .i64 (x : Int), .int .i64 (y : Int)] w (Gives (.bool (lighterM x y)) w) := by
  have H1 : Hid (∀ w, Calls Tryd.prog 61 #[.int .i64 (x : Int)] w (Gives (.int .i64 ((weightM x : Nat) : Int)) w)) := fun w => bt_weight x hx w
  have H2 : Hid (∀ w, Calls Tryd.prog 61 #[.int .i64 (y : Int)] w (Gives (.int .i64 ((weightM y : Nat) : Int)) w)) := fun w => bt_weight y hy w
  unfold lighterM
  have l1 : weightM x ≤ 64 := popF_le 64 x
  have l2 : weightM y ≤ 64 := popF_le 64 y
  generalize weightM x = a at *
  generalize weightM y = b at *
  by_cases h1 : a < b
  · rw [decide_eq_true (.inl h1)]
    have h1' : decide ((a : Int) < b) = true := decide_eq_true (by omega)
    have h1n : decide (a < b) = true := decide_eq_true h1
    clear h1
    go_enter Tryd.func67, Tryd.ntmps67
    go_wp2_with fail
    refine (H1.out _).mono ?_
    rintro e w1 ⟨rfl, hb1⟩
    go_wp2_with fail
    refine (H2.out _).mono ?_
    rintro e w2 ⟨rfl, hb2⟩
    go_wp2_with fail
    go_ret
    exact ⟨rfl, below_via hb2 hb1⟩
  · have h1' : decide ((a : Int) < b) = false := decide_eq_false (by omega)
    have h1n : decide (a < b) = false := decide_eq_false h1
    by_cases h2 : a = b
    · by_cases h3 : x < y
      · rw [decide_eq_true (.inr ⟨h2, h3⟩)]
        have h3' : decide ((x : Int) < y) = true := decide_eq_true (by omega)
        have h3n : decide (x < y) = true := decide_eq_true h3
        subst h2
        clear h1 h3
        go_enter Tryd.func67, Tryd.ntmps67
        go_wp2_with fail
        refine (H1.out _).mono ?_
        rintro e w1 ⟨rfl, hb1⟩
        go_wp2_with fail
        refine (H2.out _).mono ?_
        rintro e w2 ⟨rfl, hb2⟩
        go_wp2_with fail
        refine (H1.out _).mono ?_
        rintro e w3 ⟨rfl, hb3⟩
        go_wp2_with fail
        refine (H2.out _).mono ?_
        rintro e w4 ⟨rfl, hb4⟩
        go_wp2_with fail
        go_ret
        exact ⟨rfl, below_via hb4 (below_via hb3 (below_via hb2 hb1))⟩
      · rw [decide_eq_false (by omega)]
        have h3' : decide ((x : Int) < y) = false := decide_eq_false (by omega)
        have h3n : decide (x < y) = false := decide_eq_false h3
        subst h2
        clear h1 h3
        go_enter Tryd.func67, Tryd.ntmps67
        go_wp2_with fail
        refine (H1.out _).mono ?_
        rintro e w1 ⟨rfl, hb1⟩
        go_wp2_with fail
        refine (H2.out _).mono ?_
        rintro e w2 ⟨rfl, hb2⟩
        go_wp2_with fail
        refine (H1.out _).mono ?_
        rintro e w3 ⟨rfl, hb3⟩
        go_wp2_with fail
        refine (H2.out _).mono ?_
        rintro e w4 ⟨rfl, hb4⟩
        go_wp2_with fail
        go_ret
        exact ⟨rfl, below_via hb4 (below_via hb3 (below_via hb2 hb1))⟩
    · rw [decide_eq_false (by omega)]
      have h2' : ((a : Int) == b) = false := beq_eq_false_iff_ne.2 (by omega)
      have h2n : (a == b) = false := beq_eq_false_iff_ne.2 h2
      clear h1
      go_enter Tryd.func67, Tryd.ntmps67
      go_wp2_with fail
      refine (H1.out _).mono ?_
      rintro e w1 ⟨rfl, hb1⟩
      go_wp2_with fail
      refine (H2.out _).mono ?_
      rintro e w2 ⟨rfl, hb2⟩
      go_wp2_with fail
      refine (H1.out _).mono ?_
      rintro e w3 ⟨rfl, hb3⟩
      go_wp2_with fail
      refine (H2.out _).mono ?_
      rintro e w4 ⟨rfl, hb4⟩
      go_wp2_with fail
      go_ret
      exact ⟨rfl, below_via hb4 (below_via hb3 (below_via hb2 hb1))⟩
def WeightM (x : Int) : Nat × Int := if x < 0 then (0, 3) else (weightM x.toNat, 0)
theorem bt_Weight (x : Int) (hx : x < 9223372036854775808) (w : World) : Calls Tryd.prog 41 #[.int .i64 x] w (Gives (.tuple #[.int .i64 ((WeightM x).1 : Int), .int .i64 (WeightM x).2]) w) := by
  unfold WeightM
  by_cases h : x < 0
  · rw [if_pos h]
    go_enter Tryd.func41, Tryd.ntmps41
    go_wp2_with fail
    go_ret2
    exact ⟨rfl, Below.refl _ _⟩
  · rw [if_neg h]
    have H1 : Hid (∀ w, Calls Tryd.prog 61 #[.int .i64 x] w (Gives (.int .i64 ((weightM x.toNat : Nat) : Int)) w)) := fun w => by
      have := bt_weight x.toNat (by omega) w
      rwa [show ((x.toNat : Nat) : Int) = x by omega] at this
    generalize weightM x.toNat = a at *
    go_enter Tryd.func41, Tryd.ntmps41
    go_wp2_with fail
    refine (H1.out _).mono ?_
    rintro e w1 ⟨rfl, hb1⟩
    go_wp2_with fail
    go_ret2
    exact ⟨rfl, hb1⟩
end Go.Proofs.YtpnancidgobehaaDoor
