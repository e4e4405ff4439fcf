
/- Rows of bits: the exported functions on spans. -/
import Derived.Test.YtpnancidgobehaaDoorVl
set_option linter.all false
set_option maxRecDepth 100000
namespace Go.Proofs.YtpnancidgobehaaDoor
open Go.RowKit

def nats (xs : List Int) : List Nat := xs.map Int.toNat
theorem nats_len (xs : List Int) : (nats xs).length = xs.length := by simp [nats]
theorem fitsM_of {x : Int} {n : Nat} (h : fitsM x n = true) : 0 ≤ x ∧ x < ((2 ^ n : Nat) : Int) := of_decide_eq_true h
theorem pow16 {n : Nat} (h : n ≤ 24) : 2 ^ n ≤ R24 := by
  have : 2 ^ n ≤ 2 ^ 24 := Nat.pow_le_pow_right (by omega) h
  simpa [R24] using this
/-- Rows without an error. -/
structure Right (xs : List Int) (n : Int) (l : List Nat) (m : Nat) : Prop where
  hn : n = m
  hx : xs = casts l
  h1 : 1 ≤ m
  h16 : m ≤ 16
  len : l.length ≤ 24
  lt : ∀ x ∈ l, x < 2 ^ m
  r24 : ∀ x ∈ l, x < R24
theorem right_of {xs : List Int} {n : Int} (h : checkM xs n = 0) : Right xs n (nats xs) n.toNat := by
  obtain ⟨h1, h2, h3, h4⟩ := checkM_ok h
  have hall : ∀ x ∈ xs, 0 ≤ x ∧ x < ((2 ^ n.toNat : Nat) : Int) := fun x hx => fitsM_of (List.all_eq_true.1 h4 x hx)
  have hlt : ∀ x ∈ nats xs, x < 2 ^ n.toNat := by
    intro x hx
    simp only [nats, List.mem_map] at hx
    obtain ⟨y, hy, rfl⟩ := hx
    have := hall y hy
    generalize 2 ^ n.toNat = q at *
    omega
  refine ⟨by omega, ?_, by omega, by omega, by rw [nats_len]; exact h3, hlt, fun x hx => Nat.lt_of_lt_of_le (hlt x hx) (pow16 (by omega))⟩
  unfold casts nats
  rw [List.map_map]
  refine (List.map_id xs).symm.trans (List.map_congr_left fun x hx => ?_)
  have := (hall x hx).1
  show x = ((x.toNat : Nat) : Int)
  omega
/-- A list of the call's own, and an error. -/
def ListE (out : List Nat) (q : Int) (w : World) (e : Ending) (w' : World) : Prop := ∃ v, e = .returned (.tuple #[v, .int .i64 q]) ∧ Grow w v out w'
theorem ListE.error (q : Int) {w w' : World} (hb : Below w.heap.size w w') : ListE [] q w (.returned (.tuple #[.slice none 0 0, .int .i64 q])) w' := ⟨_, rfl, hb, Mine.nil _ _⟩
def ReduceM (xs : List Int) (n : Int) : List Nat := if checkM xs n = 0 then reducedM (spanned (nats xs)).at_ else []
def NullM (xs : List Int) (n : Int) : List Nat := if checkM xs n = 0 then nullM (nats xs) n.toNat else []
def WhichM (xs : List Int) (n row : Int) : Nat × Int := if checkedWithM xs n row = 0 then leastM (nats xs) row.toNat else (0, checkedWithM xs n row)
def SolveM (xs : List Int) (n b : Int) : Nat × Int := if checkM xs n = 0 then (if fitsM b xs.length then leastM (transposedM (nats xs) n.toNat) b.toNat else (0, 4)) else (0, checkM xs n)
def MemberM (xs : List Int) (n row : Int) : Bool × Int := if checkedWithM xs n row = 0 then ((madeM (spanned (nats xs)).at_ row.toNat).2, 0) else (false, checkedWithM xs n row)
theorem checkedWithM_ok {xs : List Int} {n row : Int} (h : checkedWithM xs n row = 0) : checkM xs n = 0 ∧ 0 ≤ row ∧ row.toNat < R24 ∧ row.toNat < 2 ^ n.toNat := by
  unfold checkedWithM at h
  split at h
  · rename_i h1
    split at h
    · rename_i h2
      have h3 := fitsM_of h2
      have h4 := (right_of h1).h16
      have h5 := pow16 (show n.toNat ≤ 24 by omega)
      exact ⟨h1, h3.1, by generalize 2 ^ n.toNat = q at *; omega, by generalize 2 ^ n.toNat = q at *; omega⟩
    · exact absurd h (by decide)
  · rename_i h1; exact absurd h h1
section
variable (xs : List Int) (n : Int) (p : Option Addr) (cap : Nat) (w : World) (h : Ints w p xs) (hm : xs.length ≤ 9223372036854775807)
include h hm
set_option maxHeartbeats 1000000 in
theorem bt_Reduce : Calls Tryd.prog 13 #[.slice p xs.length cap, .int .i64 n] w (ListE (ReduceM xs n) (checkM xs n) w) := by
  have H1 : Hid (Calls Tryd.prog 44 #[.slice p xs.length cap, .int .i64 n] w (Gives (.int .i64 (checkM xs n)) w)) := bt_Check xs n p cap w h hm
  unfold ReduceM
  by_cases hc : checkM xs n = 0
  · have R := right_of hc
    rw [if_pos hc, hc]
    rw [hc] at H1
    have HS : Hid (∀ w', Below w.heap.size w w' → Calls Tryd.prog 46 #[.slice p xs.length cap] w' (Spans (nats xs) w')) := fun w' hb => by
      have := bt_spanned (nats xs) R.r24 (by have := R.len; omega) p cap w' (by have := h.below hb; rwa [R.hx] at this)
      rwa [nats_len] at this
    have HR : Hid (∀ w' b rv, SysAt w' b (spanned (nats xs)).at_ rv → Calls Tryd.prog 47 #[.pointer (some ⟨b, 0, none⟩)] w' (Lists (reducedM (spanned (nats xs)).at_) w')) := fun w' b rv h' => bt_reduced _ h'.1 b rv w' h'
    clear hc R h hm
    go_enter Tryd.func13, Tryd.ntmps13
    go_wp2_with fail
    refine H1.out.mono ?_
    rintro e w1 ⟨rfl, hb1⟩
    go_wp2_with fail
    refine (HS.out _ hb1).mono ?_
    rintro e w2 ⟨rv, rfl, h1, h2, hb2⟩
    have H3 := Lib.hid h1
    clear h1 h2
    go_wp2_with fail
    refine (HR.out _ _ rv H3.out).mono ?_
    rintro e w3 ⟨v, rfl, hg⟩
    have hb := below_via hb2 hb1
    go_wp2_with fail
    go_ret2
    exact ⟨v, rfl, below_via hg.bel hb, hg.own.low hb.size⟩
  · rw [if_neg hc]
    have hne : (checkM xs n != 0) = true := bne_iff_ne.2 hc
    generalize checkM xs n = q at *
    clear hc h hm
    go_enter Tryd.func13, Tryd.ntmps13
    go_wp2_with fail
    refine H1.out.mono ?_
    rintro e w1 ⟨rfl, hb1⟩
    go_wp2_with fail
    go_ret2
    exact ListE.error _ hb1
set_option maxHeartbeats 1000000 in
theorem bt_Null : Calls Tryd.prog 12 #[.slice p xs.length cap, .int .i64 n] w (ListE (NullM xs n) (checkM xs n) w) := by
  have H1 : Hid (Calls Tryd.prog 44 #[.slice p xs.length cap, .int .i64 n] w (Gives (.int .i64 (checkM xs n)) w)) := bt_Check xs n p cap w h hm
  unfold NullM
  by_cases hc : checkM xs n = 0
  · have R := right_of hc
    rw [if_pos hc, hc]
    rw [hc] at H1
    have HN : Hid (∀ w', Below w.heap.size w w' → Calls Tryd.prog 45 #[.slice p xs.length cap, .int .i64 n] w' (Lists (nullM (nats xs) n.toNat) w')) := fun w' hb => by
      have := bt_null (nats xs) R.len R.r24 n.toNat R.h16 p cap w' (by have := h.below hb; rwa [R.hx] at this)
      rwa [nats_len, ← R.hn] at this
    generalize nullM (nats xs) n.toNat = out at *
    clear hc R h hm
    go_enter Tryd.func12, Tryd.ntmps12
    go_wp2_with fail
    refine H1.out.mono ?_
    rintro e w1 ⟨rfl, hb1⟩
    go_wp2_with fail
    refine (HN.out _ hb1).mono ?_
    rintro e w2 ⟨v, rfl, hg⟩
    go_wp2_with fail
    go_ret2
    exact ⟨v, rfl, below_via hg.bel hb1, hg.own.low hb1.size⟩
  · rw [if_neg hc]
    have hne : (checkM xs n != 0) = true := bne_iff_ne.2 hc
    generalize checkM xs n = q at *
    clear hc h hm
    go_enter Tryd.func12, Tryd.ntmps12
    go_wp2_with fail
    refine H1.out.mono ?_
    rintro e w1 ⟨rfl, hb1⟩
    go_wp2_with fail
    go_ret2
    exact ListE.error _ hb1
set_option maxHeartbeats 1000000 in
theorem bt_Which (row : Int) : Calls Tryd.prog 30 #[.slice p xs.length cap, .int .i64 n, .int .i64 row] w (Gives (.tuple #[.int .i64 ((WhichM xs n row).1 : Int), .int .i64 (WhichM xs n row).2]) w) := by
  have H1 : Hid (Calls Tryd.prog 51 #[.slice p xs.length cap, .int .i64 n, .int .i64 row] w (Gives (.int .i64 (checkedWithM xs n row)) w)) := bt_checkedWith xs n row p cap w h hm
  unfold WhichM
  by_cases hc : checkedWithM xs n row = 0
  · obtain ⟨hc1, hr0, hr1, _⟩ := checkedWithM_ok hc
    have R := right_of hc1
    rw [if_pos hc]
    rw [hc] at H1
    have HN : Hid (∀ w', Below w.heap.size w w' → Calls Tryd.prog 59 #[.slice p xs.length cap, .int .i64 row] w' (Gives (.tuple #[.int .i64 ((leastM (nats xs) row.toNat).1 : Int), .int .i64 (leastM (nats xs) row.toNat).2]) w')) := fun w' hb => by
      have := bt_leastMade (nats xs) R.r24 (by have := R.len; omega) row.toNat hr1 p cap w' (by have := h.below hb; rwa [R.hx] at this)
      rwa [nats_len, show ((row.toNat : Nat) : Int) = row by omega] at this
    generalize (leastM (nats xs) row.toNat).1 = r at *
    generalize (leastM (nats xs) row.toNat).2 = q at *
    clear hc hc1 hr0 hr1 R h hm
    go_enter Tryd.func30, Tryd.ntmps30
    go_wp2_with fail
    refine H1.out.mono ?_
    rintro e w1 ⟨rfl, hb1⟩
    go_wp2_with fail
    refine (HN.out _ hb1).mono ?_
    rintro e w2 ⟨rfl, hb2⟩
    go_wp2_with fail
    go_ret2
    exact ⟨rfl, below_via hb2 hb1⟩
  · rw [if_neg hc]
    have hne : (checkedWithM xs n row != 0) = true := bne_iff_ne.2 hc
    generalize checkedWithM xs n row = q at *
    clear hc h hm
    go_enter Tryd.func30, Tryd.ntmps30
    go_wp2_with fail
    refine H1.out.mono ?_
    rintro e w1 ⟨rfl, hb1⟩
    go_wp2_with fail
    go_ret2
    exact ⟨rfl, hb1⟩
set_option maxHeartbeats 1000000 in
theorem bt_Member (row : Int) : Calls Tryd.prog 21 #[.slice p xs.length cap, .int .i64 n, .int .i64 row] w (Gives (.tuple #[.bool (MemberM xs n row).1, .int .i64 (MemberM xs n row).2]) w) := by
  have H1 : Hid (Calls Tryd.prog 51 #[.slice p xs.length cap, .int .i64 n, .int .i64 row] w (Gives (.int .i64 (checkedWithM xs n row)) w)) := bt_checkedWith xs n row p cap w h hm
  unfold MemberM
  by_cases hc : checkedWithM xs n row = 0
  · obtain ⟨hc1, hr0, hr1, _⟩ := checkedWithM_ok hc
    have R := right_of hc1
    rw [if_pos hc]
    rw [hc] at H1
    have HS : Hid (∀ w', Below w.heap.size w w' → Calls Tryd.prog 46 #[.slice p xs.length cap] w' (Spans (nats xs) w')) := fun w' hb => by
      have := bt_spanned (nats xs) R.r24 (by have := R.len; omega) p cap w' (by have := h.below hb; rwa [R.hx] at this)
      rwa [nats_len] at this
    have HM : Hid (∀ w' b rv, SysAt w' b (spanned (nats xs)).at_ rv → Calls Tryd.prog 52 #[.pointer (some ⟨b, 0, none⟩), .int .i64 row] w' (Gives (.tuple #[.int .i64 ((madeM (spanned (nats xs)).at_ row.toNat).1 : Int), .bool (madeM (spanned (nats xs)).at_ row.toNat).2]) w')) := fun w' b rv h' => by
      have := bt_made _ (spanned_ok R.r24 (by have := R.len; omega)).1 b rv row.toNat hr1 w' h'
      rwa [show ((row.toNat : Nat) : Int) = row by omega] at this
    generalize (madeM (spanned (nats xs)).at_ row.toNat).1 = r at *
    generalize (madeM (spanned (nats xs)).at_ row.toNat).2 = q at *
    clear hc hc1 hr0 hr1 R h hm
    go_enter Tryd.func21, Tryd.ntmps21
    go_wp2_with fail
    refine H1.out.mono ?_
    rintro e w1 ⟨rfl, hb1⟩
    go_wp2_with fail
    refine (HS.out _ hb1).mono ?_
    rintro e w2 ⟨rv, rfl, h1, h2, hb2⟩
    have H3 := Lib.hid h1
    clear h1 h2
    go_wp2_with fail
    refine (HM.out _ _ rv H3.out).mono ?_
    rintro e w3 ⟨rfl, hb3⟩
    go_wp2_with fail
    go_ret2
    exact ⟨rfl, below_via hb3 (below_via hb2 hb1)⟩
  · rw [if_neg hc]
    have hne : (checkedWithM xs n row != 0) = true := bne_iff_ne.2 hc
    generalize checkedWithM xs n row = q at *
    clear hc h hm
    go_enter Tryd.func21, Tryd.ntmps21
    go_wp2_with fail
    refine H1.out.mono ?_
    rintro e w1 ⟨rfl, hb1⟩
    go_wp2_with fail
    go_ret2
    exact ⟨rfl, hb1⟩
set_option maxHeartbeats 1000000 in
theorem bt_Solve (b : Int) : Calls Tryd.prog 27 #[.slice p xs.length cap, .int .i64 n, .int .i64 b] w (Gives (.tuple #[.int .i64 ((SolveM xs n b).1 : Int), .int .i64 (SolveM xs n b).2]) w) := by
  have H1 : Hid (Calls Tryd.prog 44 #[.slice p xs.length cap, .int .i64 n] w (Gives (.int .i64 (checkM xs n)) w)) := bt_Check xs n p cap w h hm
  unfold SolveM
  by_cases hc : checkM xs n = 0
  · have R := right_of hc
    have hlen : xs.length ≤ 24 := by have := R.len; rwa [nats_len] at this
    rw [if_pos hc]
    rw [hc] at H1
    have HF : Hid (∀ w', Calls Tryd.prog 58 #[.int .i64 b, .int .i64 (xs.length : Int)] w' (Gives (.bool (fitsM b xs.length)) w')) := fun w' => bt_fits b xs.length (by omega) w'
    by_cases hf : fitsM b xs.length = true
    · rw [if_pos hf]
      rw [hf] at HF
      have hb := fitsM_of hf
      have hp := pow16 hlen
      have hbr : b.toNat < R24 := by generalize 2 ^ xs.length = q at *; omega
      have HT : Hid (∀ w', Below w.heap.size w w' → Calls Tryd.prog 60 #[.slice p xs.length cap, .int .i64 n] w' (fun e w'' => ∃ v, e = .returned v ∧ Mine w'' (w'.heap.size + 1) v (casts (transposedM (nats xs) n.toNat)) ∧ Below w'.heap.size w' w'')) := fun w' hb' => by
        have := bt_transposed (nats xs) (by have := R.len; omega) R.r24 n.toNat R.h16 p cap w' (by have := h.below hb'; rwa [R.hx] at this)
        rwa [nats_len, ← R.hn] at this
      have HL : Hid (∀ w' p' c', Ints w' p' (casts (transposedM (nats xs) n.toNat)) → Calls Tryd.prog 59 #[.slice p' n.toNat c', .int .i64 b] w' (Gives (.tuple #[.int .i64 ((leastM (transposedM (nats xs) n.toNat) b.toNat).1 : Int), .int .i64 (leastM (transposedM (nats xs) n.toNat) b.toNat).2]) w')) := fun w' p' c' h' => by
        have := bt_leastMade (transposedM (nats xs) n.toNat) (transposedM_lt R.len _) (by rw [transposedM_len]; have := R.h16; omega) b.toNat hbr p' c' w' h'
        rwa [transposedM_len, show ((b.toNat : Nat) : Int) = b by omega] at this
      have htl := transposedM_len (nats xs) n.toNat
      generalize (leastM (transposedM (nats xs) n.toNat) b.toNat).1 = r at *
      generalize (leastM (transposedM (nats xs) n.toNat) b.toNat).2 = q at *
      generalize transposedM (nats xs) n.toNat = t at *
      clear hc hf hb hp hbr R h hm
      go_enter Tryd.func27, Tryd.ntmps27
      go_wp2_with fail
      refine H1.out.mono ?_
      rintro e w1 ⟨rfl, hb1⟩
      go_wp2_with fail
      refine (HF.out _).mono ?_
      rintro e w2 ⟨rfl, hb2⟩
      go_wp2_with fail
      refine (HT.out _ (below_via hb2 hb1)).mono ?_
      rintro e w3 ⟨v, rfl, hm3, hb3⟩
      obtain ⟨p3, c3, rfl, hi3⟩ := hm3.ints
      rw [casts_len, htl]
      have HI3 := Lib.hid hi3
      clear hm3 hi3 htl
      go_wp2_with fail
      refine (HL.out _ _ _ HI3.out).mono ?_
      rintro e w4 ⟨rfl, hb4⟩
      go_wp2_with fail
      go_ret2
      exact ⟨rfl, below_via hb4 (below_via hb3 (below_via hb2 hb1))⟩
    · rw [if_neg hf]
      have hf' : fitsM b xs.length = false := by simpa using hf
      rw [hf'] at HF
      clear hc hf hf' R h hm
      go_enter Tryd.func27, Tryd.ntmps27
      go_wp2_with fail
      refine H1.out.mono ?_
      rintro e w1 ⟨rfl, hb1⟩
      go_wp2_with fail
      refine (HF.out _).mono ?_
      rintro e w2 ⟨rfl, hb2⟩
      go_wp2_with fail
      go_ret2
      exact ⟨rfl, below_via hb2 hb1⟩
  · rw [if_neg hc]
    have hne : (checkM xs n != 0) = true := bne_iff_ne.2 hc
    generalize checkM xs n = q at *
    clear hc h hm
    go_enter Tryd.func27, Tryd.ntmps27
    go_wp2_with fail
    refine H1.out.mono ?_
    rintro e w1 ⟨rfl, hb1⟩
    go_wp2_with fail
    go_ret2
    exact ⟨rfl, hb1⟩
end
end Go.Proofs.YtpnancidgobehaaDoor
