
/- The reference of bits: the smallest functions. -/
import Derived.Test.YtpbcomdlboiddaaDoorVh
import Derived.Test.YtpbcomdlboiddaaDoorZb
import Derived.Test.YtpbcomdlboiddaaDoorVs
set_option linter.all false
set_option maxRecDepth 100000
namespace Go.Proofs.YtpbcomdlboiddaaDoor
open Go.RowKit

theorem rf_row (x : Int) (n : Nat) (hn : n < 40) (w : World) : Calls Tryd.prog 82 #[.int .i64 x, .int .i64 (n : Int)] w (Gives (.bool (fitsM x n)) w) := by
  have hpw := pow_wrap hn
  have hq := pow40 hn
  unfold O40 at hq
  by_cases h0 : 0 ≤ x
  · by_cases h1 : x < ((2 ^ n : Nat) : Int)
    · have hf : fitsM x n = true := decide_eq_true ⟨h0, h1⟩
      rw [hf]
      have h2 : decide (x < ((2 ^ n : Nat) : Int)) = true := decide_eq_true h1
      generalize 2 ^ n = q at *
      clear hf h1
      go_enter Tryd.func82, Tryd.ntmps82
      go_wp2
      go_ret
      exact ⟨rfl, Below.refl _ _⟩
    · have hf : fitsM x n = false := decide_eq_false (by omega)
      rw [hf]
      have h2 : decide (x < ((2 ^ n : Nat) : Int)) = false := decide_eq_false h1
      generalize 2 ^ n = q at *
      clear hf h1
      go_enter Tryd.func82, Tryd.ntmps82
      go_wp2
      go_ret
      exact ⟨rfl, Below.refl _ _⟩
  · have hf : fitsM x n = false := decide_eq_false (by omega)
    rw [hf]
    have h2 : decide (0 ≤ x) = false := decide_eq_false h0
    clear hf hpw hq
    go_enter Tryd.func82, Tryd.ntmps82
    go_wp2
    go_ret
    exact ⟨rfl, Below.refl _ _⟩
set_option maxHeartbeats 1000000 in
theorem rf_Check (xs : List Int) (n : Int) (p : Option Addr) (cap : Nat) (w : World) (h : Ints w p xs) (hm : xs.length ≤ 9223372036854775807) :
    Calls Tryd.prog 28 #[.slice p xs.length cap, .int .i64 n] w (Gives (.int .i64 (checkM xs n)) w) := by
  by_cases h1 : n < 1
  · have hc : checkM xs n = 3 := by unfold checkM; rw [if_pos (.inl h1)]
    rw [hc]
    clear hc h
    go_enter Tryd.func28, Tryd.ntmps28
    go_wp2_with fail
    go_ret
    exact ⟨rfl, (by repeat (first | with_reducible exact Below.refl _ _ | with_reducible refine below_al ?_ _ | with_reducible refine below_dN ?_ _ | with_reducible refine Below.drew ?_ | (with_reducible refine Below.setCell ?_ (by simp <;> omega) _) | (with_reducible refine below_via (by assumption) ?_)))⟩
  · by_cases h2 : 16 < n
    · have hc : checkM xs n = 3 := by unfold checkM; rw [if_pos (.inr h2)]
      rw [hc]
      clear hc h
      go_enter Tryd.func28, Tryd.ntmps28
      go_wp2_with fail
      go_ret
      exact ⟨rfl, (by repeat (first | with_reducible exact Below.refl _ _ | with_reducible refine below_al ?_ _ | with_reducible refine below_dN ?_ _ | with_reducible refine Below.drew ?_ | (with_reducible refine Below.setCell ?_ (by simp <;> omega) _) | (with_reducible refine below_via (by assumption) ?_)))⟩
    · by_cases h3 : 24 < xs.length
      · have hc : checkM xs n = 2 := by unfold checkM; rw [if_neg (by omega), if_pos h3]
        rw [hc]
        clear hc h
        have h3' : (24 : Int) < xs.length := by omega
        go_enter Tryd.func28, Tryd.ntmps28
        go_wp2_with fail
        go_ret
        exact ⟨rfl, (by repeat (first | with_reducible exact Below.refl _ _ | with_reducible refine below_al ?_ _ | with_reducible refine below_dN ?_ _ | with_reducible refine Below.drew ?_ | (with_reducible refine Below.setCell ?_ (by simp <;> omega) _) | (with_reducible refine below_via (by assumption) ?_)))⟩
      · have hc : checkM xs n = if allM xs n.toNat then 0 else 4 := by unfold checkM; rw [if_neg (by omega), if_neg h3]
        rw [hc]
        obtain ⟨m, rfl⟩ : ∃ m : Nat, n = m := ⟨n.toNat, by omega⟩
        have h3' : ¬ (24 : Int) < xs.length := by omega
        have HF : Hid (∀ x w', Calls Tryd.prog 82 #[.int .i64 x, .int .i64 (m : Int)] w' (Gives (.bool (fitsM x m)) w')) := fun x w' => rf_row x m (by omega) w'
        have HI := Lib.hid h
        rw [show ((m : Int)).toNat = m by omega]
        obtain ⟨R, hR⟩ : ∃ R : Int, (if allM xs m then (0 : Int) else 4) = R := ⟨_, rfl⟩
        rw [hR]
        have HR : Hid (R = if allM (xs.drop 0) m then (0 : Int) else 4) := hR.symm
        clear hc h hR
        go_enter Tryd.func28, Tryd.ntmps28
        go_wp2_with fail
        go_loopw [18] (fun i wr => ∃ k : Nat, k ≤ xs.length ∧ i = .int .i64 k ∧ Below w.heap.size w wr ∧ Hid (R = if allM (xs.drop k) m then (0 : Int) else 4)) (fun i _ => xs.length - (intOf i).toNat)
        case atStart => exact ⟨0, by omega, rfl, Below.refl _ _, HR⟩
        case round =>
          obtain ⟨k, hk, rfl, hwr, HK⟩ := hrel
          by_cases hlk : k < xs.length
          · obtain ⟨x, hxk⟩ : ∃ x, xs[k]? = some x := ⟨_, List.getElem?_eq_getElem hlk⟩
            obtain ⟨b, off, rfl, hb, hcx⟩ := (HI.out.below hwr).at_ hxk
            have HD := Lib.hid HK.out
            rw [allM_drop hxk] at HD
            clear hxk HK
            go_wp2_with fail
            refine (HF.out _ _).mono ?_
            rintro e w1 ⟨rfl, hb1⟩
            have hw1 := below_via hb1 hwr
            cases hf : fitsM x m
            · have hd := HD.out
              rw [hf, Bool.false_and, if_neg (by decide)] at hd
              subst hd
              clear hf HD
              go_wp2_with fail
              go_ret
              exact ⟨rfl, hw1⟩
            · have hd := HD.out
              rw [hf, Bool.true_and] at hd
              have HD2 := Lib.hid hd
              clear hf HD hd
              go_wp2_with fail
              go_roundw
              case rel => exact ⟨k + 1, by omega, by go_num, hw1, HD2⟩
              case measure => simp [intOf]; omega
          · have hd : R = 0 := by rw [HK.out, List.drop_eq_nil_of_le (by omega)]; rfl
            subst hd
            clear HK
            go_wp2_with fail
            go_ret
            exact ⟨rfl, hwr⟩
/-- The bits that are 1 in a number, modulo 2. -/
def parF : Nat → Nat → Nat
  | 0, _ => 0
  | n + 1, x => x % 2 ^^^ parF n (x / 2)
theorem parF_zero (n : Nat) : parF n 0 = 0 := by
  induction n with
  | zero => rfl
  | succ n ih => unfold parF; rw [Nat.zero_div, ih]; rfl
theorem xor_two {a b : Nat} (ha : a < 2) (hb : b < 2) : a ^^^ b < 2 := Nat.xor_lt_two_pow (n := 1) ha hb
set_option maxHeartbeats 1000000 in
theorem rf_Odd (x : Nat) (hx : x < 2 ^ 60) (w : World) : Calls Tryd.prog 123 #[.int .i64 (x : Int)] w (Gives (.int .i64 (parF 60 x : Nat)) w) := by
  obtain ⟨R, hR⟩ : ∃ R, parF 60 x = R := ⟨_, rfl⟩
  rw [hR]
  have HR : Hid (R = 0 ^^^ parF 60 x) := by rw [Nat.zero_xor]; exact hR.symm
  clear hR
  go_enter Tryd.func123, Tryd.ntmps123
  go_wp2_with fail
  go_loop [0, 3] (fun vx vo => ∃ y s n : Nat, vx = .int .i64 y ∧ vo = .int .i64 s ∧ s < 2 ∧ y < 4611686018427387904 ∧ Hid (y < 2 ^ n ∧ n ≤ 60) ∧ Hid (R = s ^^^ parF n y)) (fun vx _ => (intOf vx).toNat)
  case atStart => exact ⟨x, 0, 60, rfl, rfl, by omega, by omega, ⟨hx, by omega⟩, HR⟩
  case round =>
    obtain ⟨y, s, n, rfl, rfl, hs, hy, HN, HR⟩ := hrel
    by_cases hy0 : 0 < y
    · have hn := HN.out
      obtain ⟨m, rfl⟩ : ∃ m, n = m + 1 := by
        cases n with
        | zero => simp at hn; omega
        | succ m => exact ⟨m, rfl⟩
      have hn2 : y / 2 < 2 ^ m := by have := hn.1; rw [Nat.pow_succ] at this; omega
      have hr : R = (s ^^^ y % 2) ^^^ parF m (y / 2) := by rw [HR.out, Nat.xor_assoc]; rfl
      have hxo : Go.bits .xor .i64 (s : Int) ((y : Int) % 2) = ((s ^^^ y % 2 : Nat) : Int) := by
        rw [show ((y : Int) % 2) = ((y % 2 : Nat) : Int) by simp]
        exact i64_xor_nat s (y % 2) (by omega) (by omega)
      have hdv : (y : Int) / 2 = ((y / 2 : Nat) : Int) := by simp
      have hs2 := xor_two hs (show y % 2 < 2 by omega)
      have HN2 : Hid (y / 2 < 2 ^ m ∧ m ≤ 60) := ⟨hn2, by omega⟩
      have HR2 := Lib.hid hr
      have hq : y / 2 < 4611686018427387904 := by omega
      have hlt : y / 2 < y := by omega
      clear hn hn2 hr HN HR
      generalize y / 2 = q at *
      generalize s ^^^ y % 2 = s2 at *
      go_wp2_with fail
      go_round
      case rel => exact ⟨q, s2, m, rfl, rfl, hs2, hq, HN2, HR2⟩
      case measure => simp [intOf]; omega
    · obtain rfl : y = 0 := by omega
      have hr : R = s := by rw [HR.out, parF_zero, Nat.xor_zero]
      subst hr
      clear HR HN
      go_wp2_with fail
      go_ret
      exact ⟨rfl, Below.refl _ _⟩
set_option maxHeartbeats 1000000 in
theorem rf_Ones (x : Nat) (hx : x < 2 ^ 63) (w : World) : Calls Tryd.prog 99 #[.int .i64 (x : Int)] w (Gives (.int .i64 (popF 63 x : Nat)) w) := by
  obtain ⟨R, hR⟩ : ∃ R, popF 63 x = R := ⟨_, rfl⟩
  rw [hR]
  have HR : Hid (R = 0 + popF 63 x) := by rw [Nat.zero_add]; exact hR.symm
  clear hR
  go_enter Tryd.func99, Tryd.ntmps99
  go_wp2_with fail
  go_loop [0, 3] (fun vx vo => ∃ y s n : Nat, vx = .int .i64 y ∧ vo = .int .i64 s ∧ s + n ≤ 63 ∧ y < 9223372036854775808 ∧ Hid (y < 2 ^ n) ∧ Hid (R = s + popF n y)) (fun vx _ => (intOf vx).toNat)
  case atStart => exact ⟨x, 0, 63, rfl, rfl, by omega, by omega, hx, HR⟩
  case round =>
    obtain ⟨y, s, n, rfl, rfl, hs, hy, HN, HR⟩ := hrel
    by_cases hy0 : 0 < y
    · have hn := HN.out
      obtain ⟨m, rfl⟩ : ∃ m, n = m + 1 := by
        cases n with
        | zero => simp at hn; omega
        | succ m => exact ⟨m, rfl⟩
      have hn2 : y / 2 < 2 ^ m := by rw [Nat.pow_succ] at hn; omega
      have hr : R = (s + y % 2) + popF m (y / 2) := by rw [HR.out, Nat.add_assoc]; rfl
      have hmd : (y : Int) % 2 = ((y % 2 : Nat) : Int) := by simp
      have hdv : (y : Int) / 2 = ((y / 2 : Nat) : Int) := by simp
      have hs2 : s + y % 2 + m ≤ 63 := by omega
      have hb2 : y % 2 < 2 := by omega
      have HN2 := Lib.hid hn2
      have HR2 := Lib.hid hr
      have hq : y / 2 < 9223372036854775808 := by omega
      have hlt : y / 2 < y := by omega
      have hadd : ∃ s2 : Nat, s2 = s + y % 2 := ⟨_, rfl⟩
      clear hn hn2 hr HN HR hadd
      generalize y / 2 = q at *
      generalize y % 2 = b at *
      go_wp2_with fail
      go_round
      case rel => exact ⟨q, s + b, m, rfl, by go_num, hs2, hq, HN2, HR2⟩
      case measure => simp [intOf]; omega
    · obtain rfl : y = 0 := by omega
      have hr : R = s := by rw [HR.out, popF_zero, Nat.add_zero]
      subst hr
      clear HR HN
      go_wp2_with fail
      go_ret
      exact ⟨rfl, Below.refl _ _⟩
/-- How many bits a number has. -/
def bitLen (x : Nat) : Nat := if x = 0 then 0 else x.log2 + 1
theorem bitLen_half {y : Nat} (h : 0 < y) : bitLen y = bitLen (y / 2) + 1 := by
  unfold bitLen
  rw [if_neg (by omega)]
  by_cases h1 : y / 2 = 0
  · rw [if_pos h1]
    have : y = 1 := by omega
    subst this
    decide
  · rw [if_neg h1]
    have : y.log2 = (y / 2).log2 + 1 := by rw [Nat.log2_def, if_pos (by omega)]
    omega
set_option maxHeartbeats 1000000 in
theorem rf_Lead (x : Nat) (hx : x < 2 ^ 60) (w : World) : Calls Tryd.prog 71 #[.int .i64 (x : Int)] w (Gives (.int .i64 ((bitLen x : Int) - 1)) w) := by
  obtain ⟨R, hR⟩ : ∃ R : Int, ((bitLen x : Int) - 1) = R := ⟨_, rfl⟩
  rw [hR]
  have hr : R = -1 + (bitLen x : Int) := by omega
  have HR := Lib.hid hr
  clear hr
  have hbl : bitLen x ≤ 60 := by
    unfold bitLen
    split
    · omega
    · rename_i h0
      have := log_lt h0 hx
      omega
  clear hR
  go_enter Tryd.func71, Tryd.ntmps71
  go_wp2_with fail
  go_loop [0, 3] (fun vx vo => ∃ (y : Nat) (s : Int), vx = .int .i64 y ∧ vo = .int .i64 s ∧ -1 ≤ s ∧ s + bitLen y ≤ 60 ∧ y < 4611686018427387904 ∧ Hid (R = s + (bitLen y : Int))) (fun vx _ => (intOf vx).toNat)
  case atStart => exact ⟨x, -1, rfl, rfl, by omega, by omega, by omega, HR⟩
  case round =>
    obtain ⟨y, s, rfl, rfl, hs, hs2, hy, HR⟩ := hrel
    by_cases hy0 : 0 < y
    · have hbh := bitLen_half hy0
      have hr : R = (s + 1) + (bitLen (y / 2) : Int) := by rw [HR.out, hbh]; omega
      have hdv : (y : Int) / 2 = ((y / 2 : Nat) : Int) := by simp
      have hs3 : (s + 1) + bitLen (y / 2) ≤ 60 := by omega
      have HR2 := Lib.hid hr
      have hq : y / 2 < 4611686018427387904 := by omega
      have hlt : y / 2 < y := by omega
      clear hbh hr HR
      generalize y / 2 = q at *
      go_wp2_with fail
      go_round
      case rel => exact ⟨q, s + 1, rfl, rfl, by omega, by omega, hq, HR2⟩
      case measure => simp [intOf]; omega
    · obtain rfl : y = 0 := by omega
      have hr : R = s := by rw [HR.out]; simp [bitLen]
      subst hr
      clear HR
      go_wp2_with fail
      go_ret
      exact ⟨rfl, Below.refl _ _⟩
end Go.Proofs.YtpbcomdlboiddaaDoor
