
/- The reference's number: digits from a place on. -/
import Derived.Test.YtjalpolciofphaaDoorTp
set_option linter.all false
set_option maxRecDepth 100000
namespace Go.Proofs.YtjalpolciofphaaDoor
open Go.RowKit

def numR : List UInt8 → Int → Nat → Int × Nat
  | [], n, i => (n, i)
  | c :: t, n, i => if isDig c = true then numR t (if 2147483648 < 10 * n + ((c.toNat : Int) - 48) then 2147483648 else 10 * n + ((c.toNat : Int) - 48)) (i + 1) else (n, i)
theorem numR_step (s : ByteArray) (k : Nat) (n : Int) (h : k < s.size) :
    numR (s.data.toList.drop k) n k = if isDig s[k] = true then numR (s.data.toList.drop (k + 1)) (if 2147483648 < 10 * n + ((s[k].toNat : Int) - 48) then 2147483648 else 10 * n + ((s[k].toNat : Int) - 48)) (k + 1) else (n, k) := by
  have h' : k < s.data.toList.length := by simpa using h
  rw [List.drop_eq_getElem_cons h', numR]
  rfl
theorem numR_end (s : ByteArray) (k : Nat) (n : Int) (h : ¬ k < s.size) : numR (s.data.toList.drop k) n k = (n, k) := by
  rw [List.drop_eq_nil_of_le (by simpa using Nat.le_of_not_lt h)]
  rfl
theorem run_min_int2 {P : Program} {w : World} (ts : Array TypeId) (t : TypeId) (k k1 : IntKind) (x y : Int) : (Builtin.min_ ts t #[.int k x, .int k1 y]).run P w = .ok (.int k (if y < x then y else x)) w := by
  simp [Builtin.min_, Builtin.min2]
set_option maxHeartbeats 2000000 in
theorem r_number (s : ByteArray) (a : Nat) (w : World) (hs : s.size ≤ 4294967280) (ha : a ≤ s.size) :
    Calls Tryd.prog 72 #[.string s, .int .i64 a] w (Gives (.tuple #[.int .i64 (numR (s.data.toList.drop a) 0 a).1, .int .i64 (numR (s.data.toList.drop a) 0 a).2]) w) := by
  have hmin := @run_min_int2 Tryd.prog
  obtain ⟨R, hR⟩ : ∃ R, R = numR (s.data.toList.drop a) 0 a := ⟨_, rfl⟩
  rw [← hR]
  have HR := Lib.hid hR
  clear hR
  go_enter Tryd.func72, Tryd.ntmps72
  go_wp2_with fail
  go_loop [1, 6] (fun i n => ∃ (k : Nat) (v : Int), k ≤ s.size ∧ i = .int .i64 k ∧ n = .int .i64 v ∧ (0 ≤ v ∧ v ≤ 2147483648) ∧ Hid (R = numR (s.data.toList.drop k) v k)) (fun i _ => s.size - (intOf i).toNat)
  case atStart => exact ⟨a, 0, ha, rfl, rfl, by omega, HR.out⟩
  case round =>
    obtain ⟨k, v, hk, rfl, rfl, ⟨hv0, hv1⟩, HK⟩ := hrel
    clear HR
    by_cases hlt : k < s.size
    · have hst := numR_step s k v hlt
      by_cases h1 : 48 ≤ (s[k].toNat : Int)
      · by_cases h2 : (s[k].toNat : Int) ≤ 57
        · have hd : isDig s[k] = true := decide_eq_true ⟨h1, h2⟩
          rw [if_pos hd] at hst
          have HN := Lib.hid (HK.out.trans hst)
          clear hst hd HK
          go_wp2_with fail
          all_goals
            go_round
            case rel => exact ⟨k + 1, _, by omega, by go_num, rfl, by split <;> omega, HN.out⟩
            case measure => simp [intOf]; omega
        · have hd : isDig s[k] = false := decide_eq_false (fun h => h2 h.2)
          rw [if_neg (by rw [hd]; simp)] at hst
          have HN := Lib.hid (HK.out.trans hst)
          clear hst hd HK
          go_wp2_with fail
          rw [HN.out]
          go_ret2
          exact ⟨rfl, (by repeat (first | with_reducible exact Below.refl _ _ | with_reducible refine below_al ?_ _ | with_reducible refine below_dN ?_ _ | with_reducible refine Below.drew ?_ | (with_reducible refine Below.setCell ?_ (by simp <;> omega) _) | (with_reducible refine below_via (by assumption) ?_)))⟩
      · have hd : isDig s[k] = false := decide_eq_false (fun h => h1 h.1)
        rw [if_neg (by rw [hd]; simp)] at hst
        have HN := Lib.hid (HK.out.trans hst)
        clear hst hd HK
        go_wp2_with fail
        rw [HN.out]
        go_ret2
        exact ⟨rfl, (by repeat (first | with_reducible exact Below.refl _ _ | with_reducible refine below_al ?_ _ | with_reducible refine below_dN ?_ _ | with_reducible refine Below.drew ?_ | (with_reducible refine Below.setCell ?_ (by simp <;> omega) _) | (with_reducible refine below_via (by assumption) ?_)))⟩
    · have HN := Lib.hid (HK.out.trans (numR_end s k v hlt))
      clear HK
      go_wp2_with fail
      rw [HN.out]
      go_ret2
      exact ⟨rfl, (by repeat (first | with_reducible exact Below.refl _ _ | with_reducible refine below_al ?_ _ | with_reducible refine below_dN ?_ _ | with_reducible refine Below.drew ?_ | (with_reducible refine Below.setCell ?_ (by simp <;> omega) _) | (with_reducible refine below_via (by assumption) ?_)))⟩
end Go.Proofs.YtjalpolciofphaaDoor
