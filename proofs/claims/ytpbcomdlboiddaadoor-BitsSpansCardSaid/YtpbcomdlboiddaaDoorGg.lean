
/- The reference of bits: its exported functions on spans, in the words of the program's. -/
import Derived.Test.YtpbcomdlboiddaaDoorZc
import Derived.Test.YtpbcomdlboiddaaDoorBi
import Derived.Test.YtpbcomdlboiddaaDoorBh
set_option linter.all false
set_option maxRecDepth 100000
namespace Go.Proofs.YtpbcomdlboiddaaDoor
open Go.RowKit

/-- What the mathematics tells of right rows. -/
theorem Right.maths {xs : List Int} {n : Int} {l : List Nat} {m : Nat} (R : Right xs n l m) : reducedM (spanned l).at_ = redR l m ∧ nullM l m = orthR l m := by
  have h16 := R.h16
  have hl := R.len
  exact ⟨reduced_eq (by omega) R.lt (by omega), null_eq R.lt hl (by omega)⟩
theorem Right.l40 {xs : List Int} {n : Int} {l : List Nat} {m : Nat} (R : Right xs n l m) : ∀ x ∈ l, x < O40 := fun x hx => Nat.lt_of_lt_of_le (R.r24 x hx) (by decide)
section
variable (xs : List Int) (n : Int) (p : Option Addr) (cap : Nat) (w : World) (h : Ints w p xs) (hp : p = none → cap = 0)
include h hp
theorem ref_red (R : Right xs n (nats xs) n.toNat) : ∀ w', Below w.heap.size w w' → Calls Tryd.prog 70 #[.slice p xs.length cap, .int .i64 n] w' (Lists (reducedM (spanned (nats xs)).at_) w') := fun w' hb => by
  rw [R.maths.1]
  have hl := R.len
  have := rf_Reduced (nats xs) (by omega) R.l40 n.toNat (by have := R.h16; omega) p cap w' (by have := h.below hb; rwa [R.hx] at this) hp
  rwa [nats_len, ← R.hn] at this
theorem ref_null (R : Right xs n (nats xs) n.toNat) : ∀ w', Below w.heap.size w w' → Calls Tryd.prog 72 #[.slice p xs.length cap, .int .i64 n] w' (Lists (nullM (nats xs) n.toNat) w') := fun w' hb => by
  rw [R.maths.2]
  have hl := R.len
  have := rf_Orthogonal (nats xs) (by omega) n.toNat R.lt (by have := R.h16; omega) p cap w' (by have := h.below hb; rwa [R.hx] at this) hp
  rwa [nats_len, ← R.hn] at this
variable (hm : xs.length ≤ 9223372036854775807)
include hm
set_option maxHeartbeats 1000000 in
theorem rf_Reduce : Calls Tryd.prog 20 #[.slice p xs.length cap, .int .i64 n] w (ListE (ReduceM xs n) (checkM xs n) w) := by
  have H1 : Hid (Calls Tryd.prog 28 #[.slice p xs.length cap, .int .i64 n] w (Gives (.int .i64 (checkM xs n)) w)) := rf_Check xs n p cap w h hm
  unfold ReduceM
  by_cases hc : checkM xs n = 0
  · have R := right_of hc
    rw [if_pos hc, hc]
    rw [hc] at H1
    have HR := Lib.hid (ref_red xs n p cap w h hp R)
    generalize reducedM (spanned (nats xs)).at_ = O at *
    clear hc R h hm hp
    go_enter Tryd.func20, Tryd.ntmps20
    go_wp2_with fail
    refine H1.out.mono ?_
    rintro e w1 ⟨rfl, hb1⟩
    go_wp2_with fail
    refine (HR.out _ hb1).mono ?_
    rintro e w2 ⟨v, rfl, hg⟩
    go_wp2_with fail
    go_ret2
    exact ⟨v, rfl, below_via hg.bel hb1, hg.own.low hb1.size⟩
  · rw [if_neg hc]
    have hne : (checkM xs n != 0) = true := bne_iff_ne.2 hc
    generalize checkM xs n = q at *
    clear hc h hp hm
    go_enter Tryd.func20, Tryd.ntmps20
    go_wp2_with fail
    refine H1.out.mono ?_
    rintro e w1 ⟨rfl, hb1⟩
    go_wp2_with fail
    go_ret2
    exact ListE.error _ hb1
set_option maxHeartbeats 1000000 in
theorem rf_Null : Calls Tryd.prog 22 #[.slice p xs.length cap, .int .i64 n] w (ListE (NullM xs n) (checkM xs n) w) := by
  have H1 : Hid (Calls Tryd.prog 28 #[.slice p xs.length cap, .int .i64 n] w (Gives (.int .i64 (checkM xs n)) w)) := rf_Check xs n p cap w h hm
  unfold NullM
  by_cases hc : checkM xs n = 0
  · have R := right_of hc
    rw [if_pos hc, hc]
    rw [hc] at H1
    have HR := Lib.hid (ref_null xs n p cap w h hp R)
    generalize nullM (nats xs) n.toNat = O at *
    clear hc R h hm hp
    go_enter Tryd.func22, Tryd.ntmps22
    go_wp2_with fail
    refine H1.out.mono ?_
    rintro e w1 ⟨rfl, hb1⟩
    go_wp2_with fail
    refine (HR.out _ hb1).mono ?_
    rintro e w2 ⟨v, rfl, hg⟩
    go_wp2_with fail
    go_ret2
    exact ⟨v, rfl, below_via hg.bel hb1, hg.own.low hb1.size⟩
  · rw [if_neg hc]
    have hne : (checkM xs n != 0) = true := bne_iff_ne.2 hc
    generalize checkM xs n = q at *
    clear hc h hp hm
    go_enter Tryd.func22, Tryd.ntmps22
    go_wp2_with fail
    refine H1.out.mono ?_
    rintro e w1 ⟨rfl, hb1⟩
    go_wp2_with fail
    go_ret2
    exact ListE.error _ hb1
set_option maxHeartbeats 1000000 in
theorem rf_Rank : Calls Tryd.prog 19 #[.slice p xs.length cap, .int .i64 n] w (Gives (.tuple #[.int .i64 ((ReduceM xs n).length : Int), .int .i64 (checkM xs n)]) w) := by
  have H1 : Hid (Calls Tryd.prog 28 #[.slice p xs.length cap, .int .i64 n] w (Gives (.int .i64 (checkM xs n)) w)) := rf_Check xs n p cap w h hm
  unfold ReduceM
  by_cases hc : checkM xs n = 0
  · have R := right_of hc
    rw [if_pos hc, hc]
    rw [hc] at H1
    have HR := Lib.hid (ref_red xs n p cap w h hp R)
    generalize reducedM (spanned (nats xs)).at_ = O at *
    clear hc R h hm hp
    go_enter Tryd.func19, Tryd.ntmps19
    go_wp2_with fail
    refine H1.out.mono ?_
    rintro e w1 ⟨rfl, hb1⟩
    go_wp2_with fail
    refine (HR.out _ hb1).mono ?_
    rintro e w2 ⟨v, rfl, hg⟩
    obtain ⟨p', c', hv⟩ := hg.own.slice
    have hb2 := below_via hg.bel hb1
    rw [casts_len] at hv
    subst hv
    clear hg HR
    go_wp2_with fail
    go_ret2
    exact ⟨rfl, hb2⟩
  · rw [if_neg hc]
    have hne : (checkM xs n != 0) = true := bne_iff_ne.2 hc
    generalize checkM xs n = q at *
    clear hc h hp hm
    go_enter Tryd.func19, Tryd.ntmps19
    go_wp2_with fail
    refine H1.out.mono ?_
    rintro e w1 ⟨rfl, hb1⟩
    go_wp2_with fail
    go_ret2
    exact ⟨rfl, hb1⟩
end
end Go.Proofs.YtpbcomdlboiddaaDoor
