
/- The outright laws of bits: the sum of chosen rows, how many bits are 1. -/

import Derived.Test.YtpnancidgobehaaDoorVp
import Derived.Test.YtpnancidgobehaaDoorVt
set_option linter.all false
set_option maxRecDepth 100000
namespace Go.Proofs.YtpnancidgobehaaDoor
open Go.RowKit

theorem bt_one_val (r k : Nat) (hr : r < 4611686018427387904) : (Go.bits .and .i64 ((r : Int) / 2 ^ k) 1 == 1) = r.testBit k := by
  have h1 : ((r : Int) / 2 ^ k) = ((r / 2 ^ k : Nat) : Int) := by simp
  have h2 : r / 2 ^ k < 4611686018427387904 := Nat.lt_of_le_of_lt (Nat.div_le_self _ _) hr
  rw [h1, show (1 : Int) = ((1 : Nat) : Int) from rfl, i64_and_nat _ 1 h2 (by omega), Nat.testBit, Nat.shiftRight_eq_div_pow, Nat.and_comm 1]
  have h3 : r / 2 ^ k &&& 1 = r / 2 ^ k % 2 := Nat.and_one_is_mod _
  rw [h3]
  rcases Nat.mod_two_eq_zero_or_one (r / 2 ^ k) with h | h <;> rw [h] <;> rfl
theorem prod_drop {l : List Nat} {k r : Nat} (h : l[k]? = some r) (which x : Nat) : xorL (chosenM (l.drop k) k which) x = xorL (chosenM (l.drop (k + 1)) (k + 1) which) (if which.testBit k then x ^^^ r else x) := by
  rw [chosen_drop h]
  by_cases hb : which.testBit k = true
  · rw [if_pos hb, if_pos hb]; rfl
  · rw [if_neg hb, if_neg hb]
set_option maxHeartbeats 2000000 in
theorem lw_total (l : List Nat) (hl : l.length ≤ 60) (hx : ∀ x ∈ l, x < R24) (which : Nat) (hw : which < 4611686018427387904) (p : Option Addr) (cap : Nat) (w : World) (h : Ints w p (casts l)) :
    Calls Tryd.prog 18 #[.slice p l.length cap, .int .i64 (which : Int)] w (Gives (.int .i64 ((prodM l which : Nat) : Int)) w) := by
  have HI := Lib.hid h
  obtain ⟨T, hT⟩ : ∃ T, prodM l which = T := ⟨_, rfl⟩
  have HT : Hid (T = xorL (chosenM (l.drop 0) 0 which) 0) := hT.symm
  rw [hT]
  clear hT h
  go_enter Tryd.func18, Tryd.ntmps18
  go_wp2_with fail
  go_loop [5, 10] (fun vx vi => ∃ k x : Nat, k ≤ l.length ∧ vx = .int .i64 x ∧ vi = .int .i64 k ∧ x < R24 ∧ Hid (T = xorL (chosenM (l.drop k) k which) x)) (fun _ vi => l.length - (intOf vi).toNat)
  case atStart => exact ⟨0, 0, by omega, rfl, rfl, by decide, HT⟩
  case round =>
    obtain ⟨k, x, hk, rfl, rfl, hxx, HT2⟩ := hrel
    clear HT
    by_cases hlk : k < l.length
    · obtain ⟨r, hrk⟩ : ∃ r, l[k]? = some r := ⟨_, List.getElem?_eq_getElem hlk⟩
      obtain ⟨b, off, rfl, hb, hcx⟩ := HI.out.at_ (casts_at hrk)
      have hr24 := hx r (List.mem_of_getElem? hrk)
      have hv := bt_one_val which k hw
      have hst := HT2.out.trans (prod_drop hrk which x)
      have hxor := i64_xor_nat x r (Nat.lt_of_lt_of_le hxx (by decide)) (Nat.lt_of_lt_of_le hr24 (by decide))
      have hxr : x ^^^ r < R24 := Nat.xor_lt_two_pow (n := 24) hxx hr24
      cases hbt : which.testBit k
      · rw [hbt] at hv hst
        rw [if_neg (by decide)] at hst
        have HN := Lib.hid hst
        clear hst HT2 hbt hrk
        go_wp2_with fail
        go_round
        case rel => exact ⟨k + 1, x, by omega, rfl, by go_num, hxx, HN⟩
        case measure => simp [intOf]; omega
      · rw [hbt] at hv hst
        rw [if_pos rfl] at hst
        have HN := Lib.hid hst
        clear hst HT2 hbt hrk
        generalize x ^^^ r = y at *
        go_wp2_with fail
        go_round
        case rel => exact ⟨k + 1, y, by omega, rfl, by go_num, hxr, HN⟩
        case measure => simp [intOf]; omega
    · obtain rfl : k = l.length := by omega
      have e : T = x := by rw [HT2.out, List.drop_eq_nil_of_le (by omega)]; rfl
      subst e
      clear HT2
      go_wp2_with fail
      go_ret
      exact ⟨rfl, Below.refl _ _⟩
theorem popF_stop : ∀ n, popF n 0 = 0
  | 0 => rfl
  | n + 1 => by rw [popF_succ]; simp [popF_stop n]
set_option maxHeartbeats 1000000 in
theorem lw_ones (x : Nat) (hx : x < 2 ^ 62) (w : World) : Calls Tryd.prog 42 #[.int .i64 (x : Int)] w (Gives (.int .i64 (popF 62 x : Nat)) w) := by
  obtain ⟨R, hR⟩ : ∃ R, popF 62 x = R := ⟨_, rfl⟩
  rw [hR]
  have HR : Hid (R = 0 + popF 62 x) := by rw [Nat.zero_add]; exact hR.symm
  clear hR
  go_enter Tryd.func42, Tryd.ntmps42
  go_wp2_with fail
  go_loop [0, 3] (fun vx vo => ∃ y s n : Nat, vx = .int .i64 y ∧ vo = .int .i64 s ∧ s + n ≤ 62 ∧ y < 4611686018427387904 ∧ Hid (y < 2 ^ n) ∧ Hid (R = s + popF n y)) (fun vx _ => (intOf vx).toNat)
  case atStart => exact ⟨x, 0, 62, rfl, rfl, by omega, by omega, hx, HR⟩
  case round =>
    obtain ⟨y, s, n, rfl, rfl, hs, hy, HN, HR⟩ := hrel
    by_cases hy0 : 0 < y
    · have hn := HN.out
      obtain ⟨m, rfl⟩ : ∃ m, n = m + 1 := by
        cases n with
        | zero => simp at hn; omega
        | succ m => exact ⟨m, rfl⟩
      have hn2 : y / 2 < 2 ^ m := by rw [Nat.pow_succ] at hn; omega
      have hr : R = (s + y % 2) + popF m (y / 2) := by rw [HR.out, Nat.add_assoc]; rfl
      have hand : Go.bits .and .i64 (y : Int) 1 = ((y % 2 : Nat) : Int) := by
        rw [show (1 : Int) = ((1 : Nat) : Int) from rfl, i64_and_nat _ 1 hy (by omega), Nat.and_one_is_mod]
      have hdv : (y : Int) / 2 = ((y / 2 : Nat) : Int) := by simp
      have hdv2 : (y : Int) / 2 ^ 1 = ((y / 2 : Nat) : Int) := by simp
      have hs2 : s + y % 2 + m ≤ 62 := by omega
      have HN2 := Lib.hid hn2
      have HR2 := Lib.hid hr
      have hq : y / 2 < 4611686018427387904 := by omega
      have hlt : y / 2 < y := by omega
      clear hn hn2 hr HN HR
      generalize y / 2 = q at *
      generalize y % 2 = b at *
      go_wp2_with fail
      go_round
      case rel => exact ⟨q, s + b, m, rfl, by go_num, hs2, hq, HN2, HR2⟩
      case measure => simp [intOf]; omega
    · obtain rfl : y = 0 := by omega
      have hr : R = s := by rw [HR.out, popF_stop, Nat.add_zero]
      subst hr
      clear HR HN
      go_wp2_with fail
      go_ret
      exact ⟨rfl, Below.refl _ _⟩
/-- Whether the number of bits that are 1 is odd. -/
def parB (n y : Nat) : Bool := decide (popF n y % 2 = 1)
theorem parB_next (n y : Nat) : parB (n + 1) y = ((decide (y % 2 = 1)) != parB n (y / 2)) := by
  unfold parB
  rw [popF_succ]
  generalize popF n (y / 2) = a
  rcases Nat.mod_two_eq_zero_or_one y with h | h <;> rcases Nat.mod_two_eq_zero_or_one a with h2 | h2
  · simp [h, h2]
  · simp [h, h2]
  · simp [h, h2, Nat.add_mod]
  · simp [h, h2, Nat.add_mod]
set_option maxHeartbeats 1000000 in
theorem lw_odd (x : Nat) (hx : x < 2 ^ 62) (w : World) : Calls Tryd.prog 15 #[.int .i64 (x : Int)] w (Gives (.bool (parB 62 x)) w) := by
  obtain ⟨R, hR⟩ : ∃ R, parB 62 x = R := ⟨_, rfl⟩
  rw [hR]
  have HR : Hid (R = (false != parB 62 x)) := by rw [hR]; cases R <;> rfl
  clear hR
  go_enter Tryd.func15, Tryd.ntmps15
  go_wp2_with fail
  go_loop [0, 3] (fun vx vo => ∃ (y : Nat) (s : Bool) (n : Nat), vx = .int .i64 y ∧ vo = .bool s ∧ n ≤ 62 ∧ y < 4611686018427387904 ∧ Hid (y < 2 ^ n) ∧ Hid (R = (s != parB n y))) (fun vx _ => (intOf vx).toNat)
  case atStart => exact ⟨x, false, 62, rfl, rfl, by omega, hx, hx, HR⟩
  case round =>
    obtain ⟨y, s, n, rfl, rfl, hs, hy, HN, HR⟩ := hrel
    by_cases hy0 : 0 < y
    · have hn := HN.out
      obtain ⟨m, rfl⟩ : ∃ m, n = m + 1 := by
        cases n with
        | zero => simp at hn; omega
        | succ m => exact ⟨m, rfl⟩
      have hn2 : y / 2 < 2 ^ m := by rw [Nat.pow_succ] at hn; omega
      have hr : R = ((s != decide (y % 2 = 1)) != parB m (y / 2)) := by
        rw [HR.out, parB_next]
        cases s <;> cases decide (y % 2 = 1) <;> cases parB m (y / 2) <;> rfl
      have hand : (Go.bits .and .i64 (y : Int) 1 == 1) = decide (y % 2 = 1) := by
        rw [show (1 : Int) = ((1 : Nat) : Int) from rfl, i64_and_nat _ 1 hy (by omega), Nat.and_one_is_mod]
        rcases Nat.mod_two_eq_zero_or_one y with h | h <;> rw [h] <;> rfl
      have hdv : (y : Int) / 2 = ((y / 2 : Nat) : Int) := by simp
      have hdv2 : (y : Int) / 2 ^ 1 = ((y / 2 : Nat) : Int) := by simp
      have HN2 := Lib.hid hn2
      have HR2 := Lib.hid hr
      have hq : y / 2 < 4611686018427387904 := by omega
      have hlt : y / 2 < y := by omega
      clear hn hn2 hr HN HR
      generalize y / 2 = q at *
      generalize decide (y % 2 = 1) = b at *
      go_wp2_with fail
      go_round
      case rel => exact ⟨q, (s != b), m, rfl, rfl, by omega, hq, HN2, HR2⟩
      case measure => simp [intOf]; omega
    · obtain rfl : y = 0 := by omega
      have hr : R = s := by rw [HR.out]; unfold parB; rw [popF_stop]; cases s <;> rfl
      subst hr
      clear HR HN
      go_wp2_with fail
      go_ret
      exact ⟨rfl, Below.refl _ _⟩
end Go.Proofs.YtpnancidgobehaaDoor
