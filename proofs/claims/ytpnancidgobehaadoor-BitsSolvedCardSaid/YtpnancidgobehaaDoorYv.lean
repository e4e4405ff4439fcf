
/- BitsSolved: the sum of chosen rows leaves the world as it was. -/
import Derived.Test.YtpnancidgobehaaDoorYe
import Derived.Deep.DeepCutAuto
set_option linter.all false
set_option maxRecDepth 100000
namespace Go.Proofs.YtpnancidgobehaaDoor
open Go.RowKit
set_option maxHeartbeats 2000000 in
theorem lw_totalS (l : List Nat) (hl : l.length ≤ 60) (hx : ∀ x ∈ l, x < R24) (which : Nat) (hw : which < 4611686018427387904) (p : Option Addr) (cap : Nat) (w : World) (h : Ints w p (casts l)) :
    Calls Tryd.prog 18 #[.slice p l.length cap, .int .i64 (which : Int)] w (fun e w' => e = .returned (.int .i64 ((prodM l which : Nat) : Int)) ∧ w' = w) := by
  have HI := Lib.hid h
  obtain ⟨T, hT⟩ : ∃ T, prodM l which = T := ⟨_, rfl⟩
  have HT : Hid (T = xorL (chosenM (l.drop 0) 0 which) 0) := hT.symm
  rw [hT]
  clear hT h
  go_enter Tryd.func18, Tryd.ntmps18
  go_wp2_with fail
  go_loop [5, 10] (fun vx vi => ∃ k x : Nat, k ≤ l.length ∧ vx = .int .i64 x ∧ vi = .int .i64 k ∧ x < R24 ∧ Hid (T = xorL (chosenM (l.drop k) k which) x)) (fun _ vi => l.length - (intOf vi).toNat)
  case atStart => exact ⟨0, 0, by omega, rfl, rfl, by decide, HT⟩
  case round =>
    obtain ⟨k, x, hk, rfl, rfl, hxx, HT2⟩ := hrel
    clear HT
    by_cases hlk : k < l.length
    · obtain ⟨r, hrk⟩ : ∃ r, l[k]? = some r := ⟨_, List.getElem?_eq_getElem hlk⟩
      obtain ⟨b, off, rfl, hb, hcx⟩ := HI.out.at_ (casts_at hrk)
      have hr24 := hx r (List.mem_of_getElem? hrk)
      have hv := bt_one_val which k hw
      have hst := HT2.out.trans (prod_drop hrk which x)
      have hxor := i64_xor_nat x r (Nat.lt_of_lt_of_le hxx (by decide)) (Nat.lt_of_lt_of_le hr24 (by decide))
      have hxr : x ^^^ r < R24 := Nat.xor_lt_two_pow (n := 24) hxx hr24
      cases hbt : which.testBit k
      · rw [hbt] at hv hst
        rw [if_neg (by decide)] at hst
        have HN := Lib.hid hst
        clear hst HT2 hbt hrk
        go_wp2_with fail
        go_round
        case rel => exact ⟨k + 1, x, by omega, rfl, by go_num, hxx, HN⟩
        case measure => simp [intOf]; omega
      · rw [hbt] at hv hst
        rw [if_pos rfl] at hst
        have HN := Lib.hid hst
        clear hst HT2 hbt hrk
        generalize x ^^^ r = y at *
        go_wp2_with fail
        go_round
        case rel => exact ⟨k + 1, y, by omega, rfl, by go_num, hxr, HN⟩
        case measure => simp [intOf]; omega
    · obtain rfl : k = l.length := by omega
      have e : T = x := by rw [HT2.out, List.drop_eq_nil_of_le (by omega)]; rfl
      subst e
      clear HT2
      go_wp2_with fail
      go_ret
      exact ⟨rfl, rfl⟩
theorem At.dR {w wk : World} {bs L : Nat} {m : Int} {Ls : List (Value × List Nat)} (h : At w bs L m Ls wk) (k : Nat) : At w bs L m Ls (wk.drewN k) := ⟨⟨h.bel.os, h.bel.tape, h.bel.output, h.bel.size, h.bel.block⟩, h.sto, h.own⟩
end Go.Proofs.YtpnancidgobehaaDoor
