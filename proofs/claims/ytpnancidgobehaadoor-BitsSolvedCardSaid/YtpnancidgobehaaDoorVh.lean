
/- Rows of bits: which rows are right. -/
import Derived.Test.YtpnancidgobehaaDoorVg
set_option linter.all false
set_option maxRecDepth 100000
namespace Go.Proofs.YtpnancidgobehaaDoor
open Go.RowKit

/-- A number is a row of n columns. -/
def fitsM (x : Int) (n : Nat) : Bool := decide (0 ≤ x ∧ x < ((2 ^ n : Nat) : Int))
theorem bt_fits (x : Int) (n : Nat) (hn : n < 40) (w : World) : Calls Tryd.prog 58 #[.int .i64 x, .int .i64 (n : Int)] w (Gives (.bool (fitsM x n)) w) := by
  have hpw := pow_wrap hn
  have hq := pow40 hn
  unfold O40 at hq
  by_cases h0 : 0 ≤ x
  · by_cases h1 : x < ((2 ^ n : Nat) : Int)
    · have hf : fitsM x n = true := decide_eq_true ⟨h0, h1⟩
      rw [hf]
      have h2 : decide (x < ((2 ^ n : Nat) : Int)) = true := decide_eq_true h1
      generalize 2 ^ n = q at *
      clear hf h1
      go_enter Tryd.func58, Tryd.ntmps58
      go_wp2
      go_ret
      exact ⟨rfl, Below.refl _ _⟩
    · have hf : fitsM x n = false := decide_eq_false (by omega)
      rw [hf]
      have h2 : decide (x < ((2 ^ n : Nat) : Int)) = false := decide_eq_false h1
      generalize 2 ^ n = q at *
      clear hf h1
      go_enter Tryd.func58, Tryd.ntmps58
      go_wp2
      go_ret
      exact ⟨rfl, Below.refl _ _⟩
  · have hf : fitsM x n = false := decide_eq_false (by omega)
    rw [hf]
    have h2 : decide (0 ≤ x) = false := decide_eq_false h0
    clear hf hpw hq
    go_enter Tryd.func58, Tryd.ntmps58
    go_wp2
    go_ret
    exact ⟨rfl, Below.refl _ _⟩
theorem bt_check1 (x : Int) (n : Nat) (hn : n < 40) (bn : Nat) (w : World) (hc : w.cell? ⟨bn, 0, none⟩ = some (.int .i64 (n : Int))) :
    Calls Tryd.prog 69 #[.int .i64 x, .pointer (some ⟨bn, 0, none⟩)] w (Gives (.bool (fitsM x n)) w) := by
  have HF : Hid (∀ w, Calls Tryd.prog 58 #[.int .i64 x, .int .i64 (n : Int)] w (Gives (.bool (fitsM x n)) w)) := fun w => bt_fits x n hn w
  go_enter Tryd.func69, Tryd.ntmps69
  go_wp2_with fail
  refine (HF.out _).mono ?_
  rintro e w1 ⟨rfl, hb1⟩
  go_wp2_with fail
  go_ret
  exact ⟨rfl, hb1⟩
def allM (xs : List Int) (n : Nat) : Bool := xs.all fun x => fitsM x n
theorem allM_drop {xs : List Int} {k n : Nat} {x : Int} (h : xs[k]? = some x) : allM (xs.drop k) n = (fitsM x n && allM (xs.drop (k + 1)) n) := by
  obtain ⟨hk, rfl⟩ := List.getElem?_eq_some_iff.1 h
  rw [List.drop_eq_getElem_cons hk]
  rfl
set_option maxHeartbeats 1000000 in
theorem bt_all (xs : List Int) (hl : xs.length ≤ 1000000) (n : Nat) (hn : n < 40) (p : Option Addr) (cap bn : Nat) (w : World) (h : Ints w p xs) (hlt : bn < w.heap.size) (hc : w.cell? ⟨bn, 0, none⟩ = some (.int .i64 (n : Int))) :
    Calls Tryd.prog 68 #[.slice p xs.length cap, .func (.func 69) #[] #[.pointer (some ⟨bn, 0, none⟩)]] w (Gives (.bool (allM xs n)) w) := by
  have HC : Hid (∀ x w', Below w.heap.size w w' → Calls Tryd.prog 69 #[.int .i64 x, .pointer (some ⟨bn, 0, none⟩)] w' (Gives (.bool (fitsM x n)) w')) := fun x w' hb => bt_check1 x n hn bn w' (by rw [(bcell hb).1 _ _ hlt]; exact hc)
  obtain ⟨R, hR⟩ : ∃ R, allM xs n = R := ⟨_, rfl⟩
  rw [hR]
  have HR : Hid (R = allM (xs.drop 0) n) := hR.symm
  have HI := Lib.hid h
  clear hR h hc
  go_enter Tryd.func68, Tryd.ntmps68
  go_wp2_with fail
  go_loopw [9] (fun i wr => ∃ k : Nat, k ≤ xs.length ∧ i = .int .i64 k ∧ Below w.heap.size w wr ∧ Hid (R = allM (xs.drop k) n)) (fun i _ => xs.length - (intOf i).toNat)
  case atStart => exact ⟨0, by omega, rfl, Below.refl _ _, HR⟩
  case round =>
    obtain ⟨k, hk, rfl, hwr, HK⟩ := hrel
    by_cases hlk : k < xs.length
    · obtain ⟨x, hxk⟩ : ∃ x, xs[k]? = some x := ⟨_, List.getElem?_eq_getElem hlk⟩
      obtain ⟨b, off, rfl, hb, hcx⟩ := (HI.out.below hwr).at_ hxk
      have HD := Lib.hid (HK.out.trans (allM_drop hxk))
      clear hxk HK
      go_wp2_with fail
      refine (HC.out _ _ hwr).mono ?_
      rintro e w1 ⟨rfl, hb1⟩
      have hw1 := below_via hb1 hwr
      cases hf : fitsM x n
      · have hd := HD.out
        rw [hf, Bool.false_and] at hd
        subst hd
        clear hf HD
        go_wp2_with fail
        go_ret
        exact ⟨rfl, hw1⟩
      · have hd := HD.out
        rw [hf, Bool.true_and] at hd
        have HD2 := Lib.hid hd
        clear hf HD hd
        go_wp2_with fail
        go_roundw
        case rel => exact ⟨k + 1, by omega, by go_num, hw1, HD2⟩
        case measure => simp [intOf]; omega
    · have hd : R = true := by rw [HK.out, List.drop_eq_nil_of_le (by omega)]; rfl
      subst hd
      clear HK
      go_wp2_with fail
      go_ret
      exact ⟨rfl, hwr⟩
/-- The error of rows. -/
def checkM (xs : List Int) (n : Int) : Int := if n < 1 ∨ 16 < n then 3 else if 24 < xs.length then 2 else if allM xs n.toNat then 0 else 4
set_option maxHeartbeats 1000000 in
theorem bt_Check (xs : List Int) (n : Int) (p : Option Addr) (cap : Nat) (w : World) (h : Ints w p xs) (hm : xs.length ≤ 9223372036854775807) :
    Calls Tryd.prog 44 #[.slice p xs.length cap, .int .i64 n] w (Gives (.int .i64 (checkM xs n)) w) := by
  by_cases h1 : n < 1
  · have hc : checkM xs n = 3 := by unfold checkM; rw [if_pos (.inl h1)]
    rw [hc]
    clear hc h
    go_enter Tryd.func44, Tryd.ntmps44
    go_wp2_with fail
    go_ret
    exact ⟨rfl, (by repeat (first | with_reducible exact Below.refl _ _ | with_reducible refine below_al ?_ _ | with_reducible refine below_dN ?_ _ | with_reducible refine Below.drew ?_ | (with_reducible refine Below.setCell ?_ (by simp <;> omega) _) | (with_reducible refine below_via (by assumption) ?_)))⟩
  · by_cases h2 : 16 < n
    · have hc : checkM xs n = 3 := by unfold checkM; rw [if_pos (.inr h2)]
      rw [hc]
      clear hc h
      go_enter Tryd.func44, Tryd.ntmps44
      go_wp2_with fail
      go_ret
      exact ⟨rfl, (by repeat (first | with_reducible exact Below.refl _ _ | with_reducible refine below_al ?_ _ | with_reducible refine below_dN ?_ _ | with_reducible refine Below.drew ?_ | (with_reducible refine Below.setCell ?_ (by simp <;> omega) _) | (with_reducible refine below_via (by assumption) ?_)))⟩
    · by_cases h3 : 24 < xs.length
      · have hc : checkM xs n = 2 := by unfold checkM; rw [if_neg (by omega), if_pos h3]
        rw [hc]
        clear hc h
        have h3' : (24 : Int) < xs.length := by omega
        go_enter Tryd.func44, Tryd.ntmps44
        go_wp2_with fail
        go_ret
        exact ⟨rfl, (by repeat (first | with_reducible exact Below.refl _ _ | with_reducible refine below_al ?_ _ | with_reducible refine below_dN ?_ _ | with_reducible refine Below.drew ?_ | (with_reducible refine Below.setCell ?_ (by simp <;> omega) _) | (with_reducible refine below_via (by assumption) ?_)))⟩
      · have hc : checkM xs n = if allM xs n.toNat then 0 else 4 := by unfold checkM; rw [if_neg (by omega), if_neg h3]
        rw [hc]
        obtain ⟨m, rfl⟩ : ∃ m : Nat, n = m := ⟨n.toNat, by omega⟩
        have h3' : ¬ (24 : Int) < xs.length := by omega
        have HA : Hid (∀ w' bn, Ints w' p xs → bn < w'.heap.size → w'.cell? ⟨bn, 0, none⟩ = some (.int .i64 (m : Int)) → Calls Tryd.prog 68 #[.slice p xs.length cap, .func (.func 69) #[] #[.pointer (some ⟨bn, 0, none⟩)]] w' (Gives (.bool (allM xs m)) w')) := fun w' bn h1 h2 h3 => bt_all xs (by omega) m (by omega) p cap bn w' h1 h2 h3
        have HI := Lib.hid h
        rw [show ((m : Int)).toNat = m by omega]
        clear hc h
        cases hal : allM xs m
        · rw [hal] at HA
          clear hal
          go_enter Tryd.func44, Tryd.ntmps44
          go_wp2_with fail
          have hb0 : Below w.heap.size w (w.alloc (.cells #[.int .i64 (m : Int)] 3)) := (by repeat (first | with_reducible exact Below.refl _ _ | with_reducible refine below_al ?_ _ | with_reducible refine below_dN ?_ _ | with_reducible refine Below.drew ?_ | (with_reducible refine Below.setCell ?_ (by simp <;> omega) _) | (with_reducible refine below_via (by assumption) ?_)))
          refine (HA.out _ _ (HI.out.below hb0) (by simp) (by go_simp)).mono ?_
          rintro e w1 ⟨rfl, hb1⟩
          go_wp2_with fail
          go_ret
          exact ⟨rfl, below_via hb1 hb0⟩
        · rw [hal] at HA
          clear hal
          go_enter Tryd.func44, Tryd.ntmps44
          go_wp2_with fail
          have hb0 : Below w.heap.size w (w.alloc (.cells #[.int .i64 (m : Int)] 3)) := (by repeat (first | with_reducible exact Below.refl _ _ | with_reducible refine below_al ?_ _ | with_reducible refine below_dN ?_ _ | with_reducible refine Below.drew ?_ | (with_reducible refine Below.setCell ?_ (by simp <;> omega) _) | (with_reducible refine below_via (by assumption) ?_)))
          refine (HA.out _ _ (HI.out.below hb0) (by simp) (by go_simp)).mono ?_
          rintro e w1 ⟨rfl, hb1⟩
          go_wp2_with fail
          go_ret
          exact ⟨rfl, below_via hb1 hb0⟩
def checkedM (a b : List Int) (n : Int) : Int := if checkM a n = 0 then checkM b n else checkM a n
def checkedWithM (a : List Int) (n row : Int) : Int := if checkM a n = 0 then (if fitsM row n.toNat then 0 else 4) else checkM a n
theorem checkM_ok {xs : List Int} {n : Int} (h : checkM xs n = 0) : 1 ≤ n ∧ n ≤ 16 ∧ xs.length ≤ 24 ∧ allM xs n.toNat = true := by
  unfold checkM at h
  split at h
  · exact absurd h (by decide)
  · split at h
    · exact absurd h (by decide)
    · split at h
      · rename_i h1 h2 h3; exact ⟨by omega, by omega, by omega, h3⟩
      · exact absurd h (by decide)
theorem bt_checked (a b : List Int) (n : Int) (p q : Option Addr) (ca cb : Nat) (w : World) (ha : Ints w p a) (hb : Ints w q b) (hm : a.length ≤ 9223372036854775807) (hm2 : b.length ≤ 9223372036854775807) :
    Calls Tryd.prog 53 #[.slice p a.length ca, .slice q b.length cb, .int .i64 n] w (Gives (.int .i64 (checkedM a b n)) w) := by
  have H1 : Hid (Calls Tryd.prog 44 #[.slice p a.length ca, .int .i64 n] w (Gives (.int .i64 (checkM a n)) w)) := bt_Check a n p ca w ha hm
  have H2 : Hid (∀ w', Below w.heap.size w w' → Calls Tryd.prog 44 #[.slice q b.length cb, .int .i64 n] w' (Gives (.int .i64 (checkM b n)) w')) := fun w' h => bt_Check b n q cb w' (hb.below h) hm2
  clear ha hb hm hm2
  unfold checkedM
  by_cases h : checkM a n = 0
  · rw [if_pos h]
    rw [h] at H1
    clear h
    go_enter Tryd.func53, Tryd.ntmps53
    go_wp2_with fail
    refine H1.out.mono ?_
    rintro e w1 ⟨rfl, hb1⟩
    go_wp2_with fail
    refine (H2.out _ hb1).mono ?_
    rintro e w2 ⟨rfl, hb2⟩
    go_wp2_with fail
    go_ret
    exact ⟨rfl, below_via hb2 hb1⟩
  · rw [if_neg h]
    have hne : (checkM a n != 0) = true := bne_iff_ne.2 h
    generalize checkM a n = e at *
    clear h H2
    go_enter Tryd.func53, Tryd.ntmps53
    go_wp2_with fail
    refine H1.out.mono ?_
    rintro e w1 ⟨rfl, hb1⟩
    go_wp2_with fail
    go_ret
    exact ⟨rfl, hb1⟩
theorem bt_checkedWith (a : List Int) (n row : Int) (p : Option Addr) (ca : Nat) (w : World) (ha : Ints w p a) (hm : a.length ≤ 9223372036854775807) :
    Calls Tryd.prog 51 #[.slice p a.length ca, .int .i64 n, .int .i64 row] w (Gives (.int .i64 (checkedWithM a n row)) w) := by
  have H1 : Hid (Calls Tryd.prog 44 #[.slice p a.length ca, .int .i64 n] w (Gives (.int .i64 (checkM a n)) w)) := bt_Check a n p ca w ha hm
  clear ha hm
  unfold checkedWithM
  by_cases h : checkM a n = 0
  · have hn := checkM_ok h
    obtain ⟨m, rfl⟩ : ∃ m : Nat, n = m := ⟨n.toNat, by omega⟩
    rw [if_pos h, show ((m : Int)).toNat = m by omega]
    rw [h] at H1
    have H2 : Hid (∀ w', Calls Tryd.prog 58 #[.int .i64 row, .int .i64 (m : Int)] w' (Gives (.bool (fitsM row m)) w')) := fun w' => bt_fits row m (by omega) w'
    clear h hn
    generalize fitsM row m = q at *
    cases q
    · go_enter Tryd.func51, Tryd.ntmps51
      go_wp2_with fail
      refine H1.out.mono ?_
      rintro e w1 ⟨rfl, hb1⟩
      go_wp2_with fail
      refine (H2.out _).mono ?_
      rintro e w2 ⟨rfl, hb2⟩
      go_wp2_with fail
      go_ret
      exact ⟨rfl, below_via hb2 hb1⟩
    · go_enter Tryd.func51, Tryd.ntmps51
      go_wp2_with fail
      refine H1.out.mono ?_
      rintro e w1 ⟨rfl, hb1⟩
      go_wp2_with fail
      refine (H2.out _).mono ?_
      rintro e w2 ⟨rfl, hb2⟩
      go_wp2_with fail
      go_ret
      exact ⟨rfl, below_via hb2 hb1⟩
  · rw [if_neg h]
    have hne : (checkM a n != 0) = true := bne_iff_ne.2 h
    generalize checkM a n = e at *
    clear h
    go_enter Tryd.func51, Tryd.ntmps51
    go_wp2_with fail
    refine H1.out.mono ?_
    rintro e w1 ⟨rfl, hb1⟩
    go_wp2_with fail
    go_ret
    exact ⟨rfl, hb1⟩
end Go.Proofs.YtpnancidgobehaaDoor
