
/- Rows of bits: the rank; what a matrix makes of a row. -/
import Derived.Test.YtpnancidgobehaaDoorVn
import Derived.Test.YtpnancidgobehaaDoorVt
set_option linter.all false
set_option maxRecDepth 100000
namespace Go.Proofs.YtpnancidgobehaaDoor
open Go.RowKit

set_option maxHeartbeats 1000000 in
theorem bt_Rank (xs : List Int) (n : Int) (p : Option Addr) (cap : Nat) (w : World) (h : Ints w p xs) (hm : xs.length ≤ 9223372036854775807) :
    Calls Tryd.prog 33 #[.slice p xs.length cap, .int .i64 n] w (Gives (.tuple #[.int .i64 ((ReduceM xs n).length : Int), .int .i64 (checkM xs n)]) w) := by
  have HR : Hid (Calls Tryd.prog 13 #[.slice p xs.length cap, .int .i64 n] w (ListE (ReduceM xs n) (checkM xs n) w)) := bt_Reduce xs n p cap w h hm
  generalize checkM xs n = q at *
  generalize ReduceM xs n = R at *
  clear h hm
  go_enter Tryd.func33, Tryd.ntmps33
  go_wp2_with fail
  refine HR.out.mono ?_
  rintro e w1 ⟨v, rfl, hb, hown⟩
  obtain ⟨p', c, rfl⟩ := hown.slice
  rw [casts_len]
  clear hown HR
  go_wp2_with fail
  go_ret2
  exact ⟨rfl, hb⟩
/-- Bit i is 1 if the row and row i have an odd number in common. -/
def imageM : List Nat → Nat → Nat → Nat → Nat
  | [], _, _, y => y
  | r :: l, i, x, y => imageM l (i + 1) x (y ||| ((weightM (r &&& x) % 2) <<< i))
theorem image_drop {l : List Nat} {k r : Nat} (h : l[k]? = some r) (x y : Nat) : imageM (l.drop k) k x y = imageM (l.drop (k + 1)) (k + 1) x (y ||| ((weightM (r &&& x) % 2) <<< k)) := by
  obtain ⟨hk, rfl⟩ := List.getElem?_eq_some_iff.1 h
  rw [List.drop_eq_getElem_cons hk]
  rfl
def ApplyM (xs : List Int) (n x : Int) : Nat × Int := if checkedWithM xs n x = 0 then (imageM (nats xs) 0 x.toNat 0, 0) else (0, checkedWithM xs n x)
theorem bit40' {b i : Nat} (hb : b < 2) (hi : i < 40) : b <<< i < O40 := by
  rw [Nat.shiftLeft_eq]
  have h1 : 2 ^ i < 2 ^ 40 := Nat.pow_lt_pow_right (by omega) hi
  rcases (by omega : b = 0 ∨ b = 1) with h | h <;> subst h <;> unfold O40 <;> omega
set_option maxHeartbeats 2000000 in
theorem bt_Apply (xs : List Int) (n x : Int) (p : Option Addr) (cap : Nat) (w : World) (h : Ints w p xs) (hm : xs.length ≤ 9223372036854775807) :
    Calls Tryd.prog 28 #[.slice p xs.length cap, .int .i64 n, .int .i64 x] w (Gives (.tuple #[.int .i64 ((ApplyM xs n x).1 : Int), .int .i64 (ApplyM xs n x).2]) w) := by
  have H1 : Hid (Calls Tryd.prog 51 #[.slice p xs.length cap, .int .i64 n, .int .i64 x] w (Gives (.int .i64 (checkedWithM xs n x)) w)) := bt_checkedWith xs n x p cap w h hm
  unfold ApplyM
  by_cases hc : checkedWithM xs n x = 0
  · obtain ⟨hc1, hr0, hr1, _⟩ := checkedWithM_ok hc
    have R := right_of hc1
    rw [if_pos hc]
    rw [hc] at H1
    obtain ⟨X, rfl⟩ : ∃ X : Nat, x = X := ⟨x.toNat, by omega⟩
    rw [Int.toNat_natCast] at hr1 ⊢
    have hI : Ints w p (casts (nats xs)) := by rw [← R.hx]; exact h
    have hll := R.len
    have hl24 := R.r24
    have hn := nats_len xs
    have HL : Hid (∀ (y : Nat) w', y < R24 → Calls Tryd.prog 61 #[.int .i64 (y : Int)] w' (Gives (.int .i64 ((weightM y : Nat) : Int)) w')) := fun y w' hy => bt_weight y (Nat.lt_of_lt_of_le hy (by decide)) w'
    rw [← hn] at H1 ⊢
    generalize nats xs = l at *
    clear hc hc1 hr0 R h hm hn
    dsimp only
    obtain ⟨Q, hQ⟩ : ∃ Q, imageM l 0 X 0 = Q := ⟨_, rfl⟩
    rw [hQ]
    have HQ : Hid (Q = imageM (l.drop 0) 0 X 0) := hQ.symm
    clear hQ
    have HI := Lib.hid hI
    clear hI
    go_enter Tryd.func28, Tryd.ntmps28
    go_wp2_with fail
    refine H1.out.mono ?_
    rintro e w1 ⟨rfl, hb1⟩
    go_wp2_with fail
    go_loopw [9, 21] (fun vy i wr => ∃ k yy : Nat, k ≤ l.length ∧ vy = .int .i64 yy ∧ i = .int .i64 k ∧ yy < O40 ∧ Below w.heap.size w wr ∧ Hid (Q = imageM (l.drop k) k X yy)) (fun _ i _ => l.length - (intOf i).toNat)
    case atStart => exact ⟨0, 0, by omega, rfl, rfl, by decide, hb1, HQ⟩
    case round =>
      obtain ⟨k, yy, hk, rfl, rfl, hyy, hwr, HK⟩ := hrel
      by_cases hlk : k < l.length
      · obtain ⟨r, hrk⟩ : ∃ r, l[k]? = some r := ⟨_, List.getElem?_eq_getElem hlk⟩
        obtain ⟨b, off, rfl, hb, hcx⟩ := (HI.out.below hwr).at_ (casts_at hrk)
        have hr24 := hl24 r (List.mem_of_getElem? hrk)
        have HD := Lib.hid (HK.out.trans (image_drop hrk X yy))
        have hand := i64_and_nat r X (by unfold R24 at hr24; omega) (by unfold R24 at hr1; omega)
        have hax : r &&& X < R24 := Nat.lt_of_le_of_lt Nat.and_le_left hr24
        have HW : Hid (∀ w', Calls Tryd.prog 61 #[.int .i64 ((r &&& X : Nat) : Int)] w' (Gives (.int .i64 ((weightM (r &&& X) : Nat) : Int)) w')) := fun w' => HL.out _ w' hax
        generalize weightM (r &&& X) = W at *
        generalize r &&& X = a at *
        have hb40 := bit40' (show W % 2 < 2 by omega) (show k < 40 by omega)
        have hshl : wrap64 ((W : Int) % 2 * 2 ^ k) = (((W % 2) <<< k : Nat) : Int) := by
          have e : ((W : Int) % 2 * 2 ^ k) = (((W % 2) <<< k : Nat) : Int) := by rw [Nat.shiftLeft_eq]; simp
          have hb := hb40
          unfold O40 at hb
          rw [e]
          generalize (W % 2) <<< k = s at hb ⊢
          exact IntWalk.wrap64_in (s : Int) ⟨by omega, by omega⟩
        have hor : Go.bits .or .i64 (yy : Int) (((W % 2) <<< k : Nat) : Int) = ((yy ||| (W % 2) <<< k : Nat) : Int) := i64_or_nat yy _ (Nat.lt_of_lt_of_le hyy (by decide)) (Nat.lt_of_lt_of_le hb40 (by decide))
        have ho40 := or40 hyy hb40
        generalize (yy ||| (W % 2) <<< k) = y2 at *
        generalize (W % 2) <<< k = s2 at *
        clear hrk HK
        go_wp2_with fail
        refine (HW.out _).mono ?_
        rintro e w2 ⟨rfl, hb2⟩
        have hw2 := below_via hb2 hwr
        clear hb2 HW
        go_wp2_with fail
        go_roundw
        case rel => exact ⟨k + 1, y2, by omega, rfl, by go_num, ho40, hw2, HD⟩
        case measure => simp [intOf]; omega
      · have hd : Q = yy := by rw [HK.out, List.drop_eq_nil_of_le (by omega)]; rfl
        subst hd
        clear HK
        go_wp2_with fail
        go_ret2
        exact ⟨rfl, hwr⟩
  · rw [if_neg hc]
    have hne : (checkedWithM xs n x != 0) = true := bne_iff_ne.2 hc
    generalize checkedWithM xs n x = q at *
    clear hc h hm
    go_enter Tryd.func28, Tryd.ntmps28
    go_wp2_with fail
    refine H1.out.mono ?_
    rintro e w1 ⟨rfl, hb1⟩
    go_wp2_with fail
    go_ret2
    exact ⟨rfl, hb1⟩
end Go.Proofs.YtpnancidgobehaaDoor
