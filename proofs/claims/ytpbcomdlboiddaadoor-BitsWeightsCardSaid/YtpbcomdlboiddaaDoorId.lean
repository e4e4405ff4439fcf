
/- The reference of bits: what a matrix makes of a row; weights of numbers. -/
import Derived.Test.YtpbcomdlboiddaaDoorGi
set_option linter.all false
set_option maxRecDepth 100000
namespace Go.Proofs.YtpbcomdlboiddaaDoor
open Go.RowKit

theorem parF_pop (n x : Nat) : parF n x = popF n x % 2 := by
  induction n generalizing x with
  | zero => rfl
  | succ n ih =>
    unfold parF
    rw [popF_succ, ih]
    generalize popF n (x / 2) = y
    rcases (by omega : x % 2 = 0 ∨ x % 2 = 1) with h | h <;> rcases (by omega : y % 2 = 0 ∨ y % 2 = 1) with h2 | h2 <;> rw [h, h2]
    · show 0 = _; omega
    · show 1 = _; omega
    · show 1 = _; omega
    · show 0 = _; omega
theorem pop_more (k n x : Nat) (h : x < 2 ^ k) : popF (k + n) x = popF k x := by
  have := popF_split k n 0 x h
  rw [Nat.mul_zero, Nat.zero_add, popF_zero, Nat.add_zero] at this
  exact this
theorem weight60 {x : Nat} (h : x < 2 ^ 60) : weightM x = popF 60 x := pop_more 60 4 x h
theorem par_weight {x : Nat} (h : x < 2 ^ 60) : parF 60 x = weightM x % 2 := by rw [parF_pop, weight60 h]
set_option maxHeartbeats 2000000 in
theorem rf_Image (l : List Nat) (hll : l.length ≤ 24) (hl24 : ∀ x ∈ l, x < R24) (X : Nat) (hX : X < R24) (p : Option Addr) (cap : Nat) (w : World) (h : Ints w p (casts l)) :
    Calls Tryd.prog 91 #[.slice p l.length cap, .int .i64 (X : Int)] w (Gives (.int .i64 (imageM l 0 X 0 : Nat)) w) := by
  have HI := Lib.hid h
  have HO : Hid (∀ (y : Nat) w', y < R24 → Calls Tryd.prog 123 #[.int .i64 (y : Int)] w' (Gives (.int .i64 ((weightM y % 2 : Nat) : Int)) w')) := fun y w' hy => by
    have := rf_Odd y (Nat.lt_of_lt_of_le hy (by decide)) w'
    rwa [par_weight (Nat.lt_of_lt_of_le hy (by decide))] at this
  clear h
  obtain ⟨Q, hQ⟩ : ∃ Q, imageM l 0 X 0 = Q := ⟨_, rfl⟩
  rw [hQ]
  have HQ : Hid (Q = imageM (l.drop 0) 0 X 0) := hQ.symm
  clear hQ
  go_enter Tryd.func91, Tryd.ntmps91
  go_wp2_with fail
  go_loopw [5, 10] (fun vy i wr => ∃ k yy : Nat, k ≤ l.length ∧ vy = .int .i64 yy ∧ i = .int .i64 k ∧ yy < O40 ∧ Below w.heap.size w wr ∧ Hid (Q = imageM (l.drop k) k X yy)) (fun _ i _ => l.length - (intOf i).toNat)
  case atStart => exact ⟨0, 0, by omega, rfl, rfl, by decide, Below.refl _ _, HQ.out⟩
  case round =>
    obtain ⟨k, yy, hk, rfl, rfl, hyy, hwr, HK⟩ := hrel
    clear HQ
    by_cases hlk : k < l.length
    · obtain ⟨r, hrk⟩ : ∃ r, l[k]? = some r := ⟨_, List.getElem?_eq_getElem hlk⟩
      obtain ⟨b, off, rfl, hb, hcx⟩ := (HI.out.below hwr).at_ (casts_at hrk)
      have hr24 := hl24 r (List.mem_of_getElem? hrk)
      have HD := Lib.hid (HK.out.trans (image_drop hrk X yy))
      have hand := i64_and_nat r X (Nat.lt_of_lt_of_le hr24 (by decide)) (Nat.lt_of_lt_of_le hX (by decide))
      have hax : r &&& X < R24 := Nat.lt_of_le_of_lt Nat.and_le_left hr24
      have HW : Hid (∀ w', Calls Tryd.prog 123 #[.int .i64 ((r &&& X : Nat) : Int)] w' (Gives (.int .i64 ((weightM (r &&& X) % 2 : Nat) : Int)) w')) := fun w' => HO.out _ w' hax
      have hm2 : weightM (r &&& X) % 2 < 2 := by omega
      generalize weightM (r &&& X) % 2 = W at *
      generalize r &&& X = a at *
      have hb40 := bit40' hm2 (show k < 40 by omega)
      have hshl : wrap64 ((W : Int) * 2 ^ k) = ((W <<< k : Nat) : Int) := by
        have e : ((W : Int) * 2 ^ k) = ((W <<< k : Nat) : Int) := by rw [Nat.shiftLeft_eq]; simp
        have hb := hb40
        unfold O40 at hb
        rw [e]
        generalize W <<< k = s at hb ⊢
        exact IntWalk.wrap64_in (s : Int) ⟨by omega, by omega⟩
      have hor : Go.bits .or .i64 (yy : Int) ((W <<< k : Nat) : Int) = ((yy ||| W <<< k : Nat) : Int) := i64_or_nat yy _ (Nat.lt_of_lt_of_le hyy (by decide)) (Nat.lt_of_lt_of_le hb40 (by decide))
      have ho40 := or40 hyy hb40
      generalize (yy ||| W <<< k) = y2 at *
      generalize W <<< k = s2 at *
      clear hrk HK
      go_wp2_with fail
      refine (HW.out _).mono ?_
      rintro e w2 ⟨rfl, hb2⟩
      have hw2 := below_via hb2 hwr
      clear hb2 HW
      go_wp2_with fail
      go_roundw
      case rel => exact ⟨k + 1, y2, by omega, rfl, by go_num, ho40, hw2, HD⟩
      case measure => simp [intOf]; omega
    · have hd : Q = yy := by rw [HK.out, List.drop_eq_nil_of_le (by omega)]; rfl
      subst hd
      clear HK
      go_wp2_with fail
      go_ret
      exact ⟨rfl, hwr⟩
theorem rf_Weight (x : Int) (hx : x < 9223372036854775808) (w : World) : Calls Tryd.prog 51 #[.int .i64 x] w (Gives (.tuple #[.int .i64 ((WeightM x).1 : Int), .int .i64 (WeightM x).2]) w) := by
  unfold WeightM
  by_cases h : x < 0
  · rw [if_pos h]
    go_enter Tryd.func51, Tryd.ntmps51
    go_wp2_with fail
    go_ret2
    exact ⟨rfl, Below.refl _ _⟩
  · rw [if_neg h]
    obtain ⟨X, rfl⟩ : ∃ X : Nat, x = X := ⟨x.toNat, by omega⟩
    have hX : X < 2 ^ 63 := by omega
    have HO : Hid (∀ w', Calls Tryd.prog 99 #[.int .i64 (X : Int)] w' (Gives (.int .i64 ((weightM X : Nat) : Int)) w')) := fun w' => by
      have := rf_Ones X hX w'
      have e : weightM X = popF 63 X := pop_more 63 1 X hX
      rwa [← e] at this
    rw [Int.toNat_natCast]
    generalize weightM X = W at *
    clear hX hx
    go_enter Tryd.func51, Tryd.ntmps51
    go_wp2_with fail
    refine (HO.out _).mono ?_
    rintro e w2 ⟨rfl, hb2⟩
    go_wp2_with fail
    go_ret2
    exact ⟨rfl, hb2⟩
set_option maxHeartbeats 1000000 in
theorem rf_Apply (xs : List Int) (n x : Int) (p : Option Addr) (cap : Nat) (w : World) (h : Ints w p xs) (hm : xs.length ≤ 9223372036854775807) :
    Calls Tryd.prog 40 #[.slice p xs.length cap, .int .i64 n, .int .i64 x] w (Gives (.tuple #[.int .i64 ((ApplyM xs n x).1 : Int), .int .i64 (ApplyM xs n x).2]) w) := by
  have H1 : Hid (Calls Tryd.prog 28 #[.slice p xs.length cap, .int .i64 n] w (Gives (.int .i64 (checkM xs n)) w)) := rf_Check xs n p cap w h hm
  unfold ApplyM checkedWithM
  by_cases hc : checkM xs n = 0
  · have R := right_of hc
    rw [if_pos hc]
    rw [hc] at H1
    obtain ⟨m, rfl⟩ : ∃ m : Nat, n = m := ⟨n.toNat, by have := R.hn; omega⟩
    have h16 := R.h16
    rw [Int.toNat_natCast] at h16 ⊢
    have HF : Hid (∀ w', Calls Tryd.prog 82 #[.int .i64 x, .int .i64 (m : Int)] w' (Gives (.bool (fitsM x m)) w')) := fun w' => rf_row x m (by omega) w'
    cases hf : fitsM x m
    · rw [hf] at HF
      rw [if_neg (by decide), if_neg (by decide)]
      clear hf hc R h hm
      go_enter Tryd.func40, Tryd.ntmps40
      go_wp2_with fail
      refine H1.out.mono ?_
      rintro e w1 ⟨rfl, hb1⟩
      go_wp2_with fail
      refine (HF.out _).mono ?_
      rintro e w2 ⟨rfl, hb2⟩
      have hw2 := below_via hb2 hb1
      clear hb2
      go_wp2_with fail
      go_ret2
      exact ⟨rfl, hw2⟩
    · rw [hf] at HF
      rw [if_pos rfl, if_pos rfl]
      have hr := fitsM_of hf
      obtain ⟨X, rfl⟩ : ∃ X : Nat, x = X := ⟨x.toNat, by omega⟩
      have hX : X < 2 ^ m := by have := hr.2; generalize 2 ^ m = q at *; omega
      have hXr : X < R24 := Nat.lt_of_lt_of_le hX (pow16 (by omega))
      rw [Int.toNat_natCast]
      have HIm : Hid (∀ w', Below w.heap.size w w' → Calls Tryd.prog 91 #[.slice p xs.length cap, .int .i64 (X : Int)] w' (Gives (.int .i64 (imageM (nats xs) 0 X 0 : Nat)) w')) := fun w' hb => by
        have := rf_Image (nats xs) R.len R.r24 X hXr p cap w' (by have := h.below hb; rwa [R.hx] at this)
        rwa [nats_len] at this
      generalize imageM (nats xs) 0 X 0 = Y at *
      clear hf hc R h hm hX hXr hr
      go_enter Tryd.func40, Tryd.ntmps40
      go_wp2_with fail
      refine H1.out.mono ?_
      rintro e w1 ⟨rfl, hb1⟩
      go_wp2_with fail
      refine (HF.out _).mono ?_
      rintro e w2 ⟨rfl, hb2⟩
      have hw2 := below_via hb2 hb1
      clear hb2
      go_wp2_with fail
      refine (HIm.out _ hw2).mono ?_
      rintro e w3 ⟨rfl, hb3⟩
      have hw3 := below_via hb3 hw2
      clear hb3
      go_wp2_with fail
      go_ret2
      exact ⟨rfl, hw3⟩
  · rw [if_neg hc, if_neg hc]
    have hne : (checkM xs n != 0) = true := bne_iff_ne.2 hc
    generalize checkM xs n = q at *
    clear hc h hm
    go_enter Tryd.func40, Tryd.ntmps40
    go_wp2_with fail
    refine H1.out.mono ?_
    rintro e w1 ⟨rfl, hb1⟩
    go_wp2_with fail
    go_ret2
    exact ⟨rfl, hb1⟩
end Go.Proofs.YtpbcomdlboiddaaDoor
