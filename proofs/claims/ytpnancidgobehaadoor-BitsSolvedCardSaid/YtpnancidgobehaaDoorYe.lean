
/- BitsSolved: for all bytes. -/
import Derived.Test.YtpnancidgobehaaDoorYk
import Derived.Test.YtpnancidgobehaaDoorBn
set_option linter.all false
set_option maxRecDepth 100000
namespace Go.Proofs.YtpnancidgobehaaDoor
open Go.RowKit
section
variable {l : List Nat} {n : Nat} (h1 : 1 ≤ n) (hn : n ≤ 16) (hll : l.length ≤ 24) (hl : ∀ x ∈ l, x < 2 ^ n) {p : Option Addr} {c : Nat} {w : World} (h : Ints w p (casts l))
include h1 hn hll hl h
theorem solve_call {b : Nat} (hb : b < 2 ^ l.length) : Calls Tryd.prog 27 #[.slice p l.length c, .int .i64 (n : Int), .int .i64 (b : Int)] w (Gives (.tuple #[.int .i64 ((leastM (transposedM l n) b).1 : Int), .int .i64 (leastM (transposedM l n) b).2]) w) := by
  have := bt_Solve (casts l) n p c w h (by rw [casts_len]; omega) (b : Int)
  unfold SolveM at this
  rw [check_right h1 hn hll hl, if_pos rfl, casts_len, fits_right hb, if_pos rfl, nats_of, Int.toNat_natCast, Int.toNat_natCast] at this
  exact this
theorem which_call {x : Nat} (hx : x < 2 ^ n) : Calls Tryd.prog 30 #[.slice p l.length c, .int .i64 (n : Int), .int .i64 (x : Int)] w (Gives (.tuple #[.int .i64 ((leastM l x).1 : Int), .int .i64 (leastM l x).2]) w) := by
  have := bt_Which (casts l) n p c w h (by rw [casts_len]; omega) (x : Int)
  unfold WhichM at this
  rw [if_pos (checkWith_right h1 hn hll hl hx), casts_len, nats_of, Int.toNat_natCast] at this
  exact this
theorem apply_call {x : Nat} (hx : x < 2 ^ n) : Calls Tryd.prog 28 #[.slice p l.length c, .int .i64 (n : Int), .int .i64 (x : Int)] w (Gives (.tuple #[.int .i64 (imageM l 0 x 0 : Nat), .int .i64 0]) w) := by
  have := bt_Apply (casts l) n x p c w h (by rw [casts_len]; omega)
  unfold ApplyM at this
  rw [if_pos (checkWith_right h1 hn hll hl hx), casts_len, nats_of, Int.toNat_natCast] at this
  exact this
end
set_option maxHeartbeats 2000000 in
theorem lw_solves (l : List Nat) (n x b : Nat) (hll : l.length ≤ 24) (hl : ∀ r ∈ l, r < 2 ^ n) (hn : n ≤ 16) (hx : x < 2 ^ n) (hb : b < 2 ^ 24) (p : Option Addr) (c : Nat) (w : World) (h : Ints w p (casts l)) :
    Calls Tryd.prog 29 #[.slice p l.length c, .int .i64 (x : Int), .int .i64 (b : Int)] w (Gives (.bool (solB n b x l 0)) w) := by
  have hpn : (2 ^ n : Nat) ≤ 65536 := Nat.pow_le_pow_right (by omega) hn
  have HO : Hid (∀ r, Calls Tryd.prog 15 #[.int .i64 ((r &&& x : Nat) : Int)] w (Gives (.bool (dotB n r x)) w)) := fun r => odd_call (by omega) hx w
  have HO2 : Hid (∀ r w', Calls Tryd.prog 15 #[.int .i64 ((r &&& x : Nat) : Int)] w' (Gives (.bool (dotB n r x)) w')) := fun r w' => odd_call (by omega) hx w'
  have HLT := Lib.hid hl
  have HI := Lib.hid h
  obtain ⟨R, hR⟩ : ∃ R, solB n b x l 0 = R := ⟨_, rfl⟩
  rw [hR]
  have HR : Hid (R = solB n b x (l.drop 0) 0) := hR.symm
  clear hR h hl HO
  go_enter Tryd.func29, Tryd.ntmps29
  go_wp2_with fail
  go_loopw [11] (fun vi wr => ∃ k : Nat, k ≤ l.length ∧ vi = .int .i64 k ∧ Below w.heap.size w wr ∧ Hid (R = solB n b x (l.drop k) k)) (fun vi _ => l.length - (intOf vi).toNat)
  case atStart => exact ⟨0, by omega, rfl, Below.refl _ _, HR⟩
  case round =>
    obtain ⟨k, hk, rfl, hwr, HK⟩ := hrel
    clear HR
    by_cases hlk : k < l.length
    · obtain ⟨r, hrk⟩ : ∃ r, l[k]? = some r := ⟨_, List.getElem?_eq_getElem hlk⟩
      obtain ⟨b0, off, rfl, hb0, hcx⟩ := (HI.out.below hwr).at_ (casts_at hrk)
      have hrn := HLT.out r (List.mem_of_getElem? hrk)
      have hand := i64_and_nat r x (by omega) (by omega)
      have HD := Lib.hid (HK.out.trans (solB_drop hrk))
      have hv := bt_one_val b k (by omega)
      have HOr := Lib.hid (HO2.out r)
      clear hrk HK hrn
      cases hbt : b.testBit k
      all_goals
        rw [hbt] at hv HD
        cases hd : dotB n r x
        all_goals
          rw [hd] at HOr HD
          have hst := HD.out
          clear HD hbt hd
          go_wp2_with fail
          go_region_with (go_at_call 15; (try rw [hand]); (with_reducible refine (HOr.out _).mono ?_); rintro e w1 ⟨rfl, hb1⟩; (try replace hb1 := undrawn hb1); have HW1 := Lib.hid (below_via hb1 hwr); clear hb1)
          all_goals
            clear hwr
            go_wp2_with fail
            first
            | (go_roundw
               case rel => exact ⟨k + 1, by omega, by go_num, (by first | exact HW1.out | exact HW1.out.drew), Lib.hid (by simpa using hst)⟩
               case measure => simp [intOf]; omega)
            | (have hR2 : R = false := by simpa using hst
               subst hR2
               go_ret
               exact ⟨rfl, (by first | exact HW1.out | exact HW1.out.drew)⟩)
    · have hd : R = true := by rw [HK.out, List.drop_eq_nil_of_le (by omega)]; rfl
      subst hd
      clear HK
      go_wp2_with fail
      go_ret
      exact ⟨rfl, hwr⟩
end Go.Proofs.YtpnancidgobehaaDoor
