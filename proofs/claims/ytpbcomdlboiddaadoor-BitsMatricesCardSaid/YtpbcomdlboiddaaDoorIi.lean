
/- The reference of bits: products and inverses, with their errors. -/
import Derived.Test.YtpbcomdlboiddaaDoorIh
import Derived.Test.YtpbcomdlboiddaaDoorVq
set_option linter.all false
set_option maxRecDepth 100000
namespace Go.Proofs.YtpbcomdlboiddaaDoor
open Go.RowKit

set_option maxHeartbeats 4000000 in
theorem rf_Mul (xs : List Int) (m : Int) (ys : List Int) (n : Int) (p q : Option Addr) (ca cb : Nat) (w : World) (h : Ints w p xs) (hy : Ints w q ys) (hm : xs.length ≤ 9223372036854775807) (hmy : ys.length ≤ 9223372036854775807) :
    Calls Tryd.prog 43 #[.slice p xs.length ca, .int .i64 m, .slice q ys.length cb, .int .i64 n] w (ListE (MulM xs m ys n).1 (MulM xs m ys n).2 w) := by
  have H1 : Hid (Calls Tryd.prog 28 #[.slice p xs.length ca, .int .i64 m] w (Gives (.int .i64 (checkM xs m)) w)) := rf_Check xs m p ca w h hm
  have H2 : Hid (∀ w', Below w.heap.size w w' → Calls Tryd.prog 28 #[.slice q ys.length cb, .int .i64 n] w' (Gives (.int .i64 (checkM ys n)) w')) := fun w' hb => rf_Check ys n q cb w' (hy.below hb) hmy
  unfold MulM
  by_cases hc : checkM xs m = 0
  · have R := right_of hc
    rw [if_pos hc]
    rw [hc] at H1
    by_cases hc2 : checkM ys n = 0
    · have R2 := right_of hc2
      rw [if_pos hc2]
      rw [hc2] at H2
      by_cases hlen : (ys.length : Int) = m
      · rw [if_pos hlen]
        have hne : ((ys.length : Int) != m) = false := by simp [hlen]
        have HP : Hid (∀ w', Below w.heap.size w w' → Calls Tryd.prog 94 #[.slice p xs.length ca, .slice q ys.length cb] w' (Lists ((nats xs).map (prodM (nats ys))) w')) := fun w' hb => by
          have := rf_Product (nats xs) R.len R.r24 (nats ys) R2.len R2.r24 p q ca cb w' (by have := h.below hb; rwa [R.hx] at this) (by have := hy.below hb; rwa [R2.hx] at this)
          rwa [nats_len, nats_len] at this
        generalize (nats xs).map (prodM (nats ys)) = O at *
        clear hc hc2 R R2 h hy hm hmy hlen
        go_enter Tryd.func43, Tryd.ntmps43
        go_wp2_with fail
        refine H1.out.mono ?_
        rintro e w1 ⟨rfl, hb1⟩
        go_wp2_with fail
        refine (H2.out _ hb1).mono ?_
        rintro e w2 ⟨rfl, hb2⟩
        have hw2 := below_via hb2 hb1
        clear hb2 hb1
        go_wp2_with fail
        refine (HP.out _ hw2).mono ?_
        rintro e w3 ⟨v, rfl, hg⟩
        go_wp2_with fail
        go_ret2
        exact ⟨v, rfl, below_via hg.bel hw2, hg.own.low hw2.size⟩
      · rw [if_neg hlen]
        have hne : ((ys.length : Int) != m) = true := bne_iff_ne.2 hlen
        clear hc hc2 R R2 h hy hm hmy hlen
        go_enter Tryd.func43, Tryd.ntmps43
        go_wp2_with fail
        refine H1.out.mono ?_
        rintro e w1 ⟨rfl, hb1⟩
        go_wp2_with fail
        refine (H2.out _ hb1).mono ?_
        rintro e w2 ⟨rfl, hb2⟩
        have hw2 := below_via hb2 hb1
        clear hb2 hb1
        go_wp2_with fail
        go_ret2
        exact ListE.error _ hw2
    · rw [if_neg hc2]
      have hne : (checkM ys n != 0) = true := bne_iff_ne.2 hc2
      generalize checkM ys n = e2 at *
      clear hc hc2 R h hy hm hmy
      go_enter Tryd.func43, Tryd.ntmps43
      go_wp2_with fail
      refine H1.out.mono ?_
      rintro e w1 ⟨rfl, hb1⟩
      go_wp2_with fail
      refine (H2.out _ hb1).mono ?_
      rintro e w2 ⟨rfl, hb2⟩
      have hw2 := below_via hb2 hb1
      clear hb2 hb1
      go_wp2_with fail
      go_ret2
      exact ListE.error _ hw2
  · rw [if_neg hc]
    have hne : (checkM xs m != 0) = true := bne_iff_ne.2 hc
    generalize checkM xs m = q2 at *
    clear hc h hy hm hmy H2
    go_enter Tryd.func43, Tryd.ntmps43
    go_wp2_with fail
    refine H1.out.mono ?_
    rintro e w1 ⟨rfl, hb1⟩
    go_wp2_with fail
    go_ret2
    exact ListE.error _ hb1
/-- The rows of the inverse. -/
def invL (l : List Nat) (k : Nat) : List Nat := (List.range k).map fun i => (rowAt (spanned l).at_ i).of
def InvPost (O : List Nat) (w : World) (ok : Bool) (e : Ending) (w' : World) : Prop := ∃ v, e = .returned (.tuple #[v, .bool ok]) ∧ Grow w v O w'
set_option maxHeartbeats 4000000 in
theorem rf_Inverse (l : List Nat) (n : Nat) (hn : n ≤ 16) (hll : l.length = n) (hlt : ∀ x ∈ l, x < 2 ^ n) (p : Option Addr) (cap : Nat) (w : World) (h : Ints w p (casts l)) (hp : p = none → cap = 0) :
    Calls Tryd.prog 95 #[.slice p l.length cap, .int .i64 (n : Int)] w (InvPost (if (spanned l).rel = [] then invL l n else []) w (decide ((spanned l).rel = []))) := by
  have hx24 : ∀ x ∈ l, x < R24 := red24 (by omega) hlt
  have HR : Hid (Calls Tryd.prog 70 #[.slice p l.length cap, .int .i64 (n : Int)] w (Lists (redR l n) w)) := rf_Reduced l (by omega) (fun x hx => Nat.lt_of_lt_of_le (hx24 x hx) (by decide)) n (by omega) p cap w h hp
  have hinv := invert_none hlt (by omega) hll
  by_cases hrel : (spanned l).rel = []
  · rw [if_pos hrel, decide_eq_true hrel]
    have hge : ¬ ((redR l n).length : Int) < n := by have := hinv.1 hrel; omega
    have HT : Hid (∀ w', Below w.heap.size w w' → Calls Tryd.prog 85 #[.slice p l.length cap, .int .i64 (n : Int)] w' (Lists (transposedM l n) w')) := fun w' hb => rf_Turned l (by omega) hx24 n (by omega) p cap w' (h.below hb)
    have hso : ∀ k, k < n → solR (transposedM l n) n (2 ^ k) = some (rowAt (spanned l).at_ k).of := fun k hk => invert_same hlt (by omega) hll hrel hk
    have HS : Hid (∀ v w' k B, Mine w' B v (casts (transposedM l n)) → k < n → ∃ q c, v = .slice q n c ∧ Calls Tryd.prog 84 #[.slice q n c, .int .i64 (n : Int), .int .i64 ((2 ^ k : Nat) : Int)] w' (Gives (.tuple #[.int .i64 ((rowAt (spanned l).at_ k).of : Nat), .bool true]) w')) := fun v w' k B hm hk => by
      obtain ⟨q, c, hv, hi⟩ := hm.ints
      rw [casts_len, trans_len] at hv
      have h2k : 2 ^ k < R24 := by
        have h1 : 2 ^ k < 2 ^ 24 := Nat.pow_lt_pow_right (by omega) (by omega)
        exact h1
      have := rf_Solution (transposedM l n) (by rw [trans_len]; omega) n (trans_lt (by omega) n) (by omega) (2 ^ k) h2k q c w' hi (fun hq => by subst hq; subst hv; exact hm.nil_cap)
      rw [trans_len, hso k hk] at this
      exact ⟨q, c, hv, this⟩
    have HL : Hid (∀ k, invL l k ++ [(rowAt (spanned l).at_ k).of] = invL l (k + 1)) := fun k => by unfold invL; rw [List.range_succ, List.map_append]; rfl
    have HLl : Hid (∀ k, (invL l k).length = k) := fun k => by simp [invL]
    have HG0 : Hid (invL l 0 = []) := rfl
    generalize redR l n = RR at *
    generalize transposedM l n = TT at *
    generalize hrw : (fun k => (rowAt (spanned l).at_ k).of) = fo
    have hfo : ∀ k, (rowAt (spanned l).at_ k).of = fo k := fun k => by rw [← hrw]
    simp only [hfo] at HS HL
    generalize invL l = IL at *
    have HI := Lib.hid h
    have HLL := Lib.hid hll
    have hl16 : l.length ≤ 16 := by omega
    clear hrw hfo hso hinv hrel h hp hlt hx24 hll
    go_enter Tryd.func95, Tryd.ntmps95
    go_wp2_with fail
    with_reducible refine HR.out.mono ?_
    rintro e w1 ⟨v, rfl, hg⟩
    obtain ⟨p1, c1, hv1⟩ := hg.own.slice
    rw [casts_len] at hv1
    have hb1 := hg.bel
    subst hv1
    clear hg HR
    have hi0 : Grow w (.slice none 0 0) (IL 0) w1 := by rw [HG0.out]; exact ⟨hb1, Mine.nil _ _⟩
    have HG1 := Lib.hid hi0
    have hdc : decide (RR.length < n) = false := decide_eq_false (by omega)
    clear hi0 HG0
    go_wp2_with fail
    (try rw [hdc])
    go_loopw [6, 7] (fun vo vi wr => ∃ (k : Nat) (v : Value), k ≤ n ∧ vo = v ∧ vi = .int .i64 k ∧ Hid (Grow w v (IL k) wr)) (fun _ vi _ => n - (intOf vi).toNat)
    case atStart => exact ⟨0, _, by omega, rfl, rfl, HG1.out⟩
    case round =>
      obtain ⟨k, v, hk, rfl, rfl, HG⟩ := hrel
      clear HG1
      by_cases hlk : k < n
      · have HN := Lib.hid (HL.out k)
        have HOl := Lib.hid (HLl.out k)
        have hpw := pow_wrap (show k < 40 by omega)
        have hpx : IntKind.i64.wrap ((2 : Int) ^ k) = ((2 ^ k : Nat) : Int) := (IntWalk.i64_left _).trans hpw
        have HSk : Hid (∀ v w' B, Mine w' B v (casts TT) → ∃ q c, v = .slice q n c ∧ Calls Tryd.prog 84 #[.slice q n c, .int .i64 (n : Int), .int .i64 ((2 ^ k : Nat) : Int)] w' (Gives (.tuple #[.int .i64 (fo k : Nat), .bool true]) w')) := fun v w' B hm => HS.out v w' k B hm hlk
        generalize IL k = O at *
        generalize fo k = y at *
        generalize 2 ^ k = q2 at *
        go_wp2_with fail
        go_region_with (first | (go_at_call 85; (with_reducible refine (HT.out _ (by first | exact HG.out.bel | exact HG.out.bel.drew)).mono ?_); rintro e w5 ⟨v5, rfl, h5⟩; obtain ⟨q5, c5, hv5, hC⟩ := HSk.out _ _ _ h5.own; have HC := Lib.hid hC; have hb5 := h5.bel; (try replace hb5 := undrawn hb5); have HB5 := Lib.hid hb5; subst hv5; clear h5 hC hb5) | (go_at_call 84; (try rw [hpw]); (try rw [hpx]); (with_reducible refine HC.out.mono ?_); rintro e w6 ⟨rfl, hb6⟩; have HG8 := Lib.hid (HG.out.call (below_via hb6 HB5.out)); clear hb6))
        clear HC HB5 HG HSk
        have HO5 := Lib.hid (HG8.out.own.al (.cells #[.int .i64 (y : Int)] 3))
        have HC1 := Lib.hid (cell1_new w6 (y : Int) 3)
        have hBB : w.heap.size ≤ (w6.alloc (.cells #[.int .i64 (y : Int)] 3)).heap.size := by rw [World.size_alloc]; have := HG8.out.bel.size; omega
        have hLL : (casts O).length ≤ 1000000 := by rw [casts_len, HOl.out]; omega
        have HBB := Lib.hid hBB
        have HLL2 := Lib.hid hLL
        clear hBB hLL HOl
        go_wp2_with (at_builtin; refine wpList_app rfl (.tmp 31) (.tmp 33) rfl w.heap.size _ (casts O) rfl HO5.out HBB.out HLL2.out w6.heap.size 1 (y : Int) rfl HC1.out ?_; intro g4 cap4 w4 hm4 hg4 hat4 hlt4)
        have HG6 := Lib.hid ((HG8.out.al _).put hm4 hg4)
        rw [HN.out] at HG6
        clear hm4 hg4 hat4 HO5 HBB HLL2 HG8 HC1 HN
        go_wp2_with fail
        go_roundw
        case rel => exact ⟨k + 1, _, by omega, rfl, by go_num, HG6.out⟩
        case measure => simp [intOf]; omega
      · obtain rfl : k = n := by omega
        go_wp2_with fail
        go_ret2
        exact ⟨_, rfl, HG.out⟩
  · rw [if_neg hrel, decide_eq_false hrel]
    have hlt2 : ((redR l n).length : Int) < n := by
      have : (redR l n).length < n := Classical.byContradiction fun hh => hrel (hinv.2 hh)
      omega
    generalize redR l n = RR at *
    clear hinv hrel h hp hlt hx24 hll
    go_enter Tryd.func95, Tryd.ntmps95
    go_wp2_with fail
    with_reducible refine HR.out.mono ?_
    rintro e w1 ⟨v, rfl, hg⟩
    obtain ⟨p1, c1, hv1⟩ := hg.own.slice
    rw [casts_len] at hv1
    have hb1 := hg.bel
    subst hv1
    clear hg HR
    go_wp2_with fail
    go_ret2
    exact ⟨_, rfl, hb1, Mine.nil _ _⟩
set_option maxHeartbeats 2000000 in
theorem rf_Invert (xs : List Int) (n : Int) (p : Option Addr) (cap : Nat) (w : World) (h : Ints w p xs) (hp : p = none → cap = 0) (hm : xs.length ≤ 9223372036854775807) :
    Calls Tryd.prog 45 #[.slice p xs.length cap, .int .i64 n] w (ListE (InvertM xs n).1 (InvertM xs n).2 w) := by
  have H1 : Hid (Calls Tryd.prog 28 #[.slice p xs.length cap, .int .i64 n] w (Gives (.int .i64 (checkM xs n)) w)) := rf_Check xs n p cap w h hm
  unfold InvertM
  by_cases hc : checkM xs n = 0
  · have R := right_of hc
    rw [if_pos hc]
    rw [hc] at H1
    by_cases hln : (xs.length : Int) = n
    · rw [if_pos hln]
      have hne : ((xs.length : Int) != n) = false := by simp [hln]
      have h16 := R.h16
      have hl2 : (nats xs).length = n.toNat := by rw [nats_len]; omega
      have HV : Hid (∀ w', Below w.heap.size w w' → Calls Tryd.prog 95 #[.slice p xs.length cap, .int .i64 n] w' (InvPost (if (spanned (nats xs)).rel = [] then invL (nats xs) n.toNat else []) w' (decide ((spanned (nats xs)).rel = [])))) := fun w' hb => by
        have := rf_Inverse (nats xs) n.toNat h16 hl2 R.lt p cap w' (by have := h.below hb; rwa [R.hx] at this) hp
        rwa [nats_len, ← R.hn] at this
      by_cases hrel : (spanned (nats xs)).rel = []
      · rw [if_pos hrel]
        rw [if_pos hrel, decide_eq_true hrel] at HV
        show Calls _ _ _ _ (ListE (invL (nats xs) n.toNat) 0 w)
        generalize invL (nats xs) n.toNat = O at *
        clear hrel hc R h hm hp hln hl2 h16
        go_enter Tryd.func45, Tryd.ntmps45
        go_wp2_with fail
        with_reducible refine H1.out.mono ?_
        rintro e w1 ⟨rfl, hb1⟩
        go_wp2_with fail
        refine (HV.out _ hb1).mono ?_
        rintro e w2 ⟨v, rfl, hg⟩
        go_wp2_with fail
        go_ret2
        exact ⟨v, rfl, below_via hg.bel hb1, hg.own.low hb1.size⟩
      · rw [if_neg hrel]
        rw [if_neg hrel, decide_eq_false hrel] at HV
        clear hrel hc R h hm hp hln hl2 h16
        go_enter Tryd.func45, Tryd.ntmps45
        go_wp2_with fail
        with_reducible refine H1.out.mono ?_
        rintro e w1 ⟨rfl, hb1⟩
        go_wp2_with fail
        refine (HV.out _ hb1).mono ?_
        rintro e w2 ⟨v, rfl, hg⟩
        have hw2 := below_via hg.bel hb1
        clear hg
        go_wp2_with fail
        go_ret2
        exact ListE.error _ hw2
    · rw [if_neg hln]
      have hne : ((xs.length : Int) != n) = true := bne_iff_ne.2 hln
      clear hc R h hm hp hln
      go_enter Tryd.func45, Tryd.ntmps45
      go_wp2_with fail
      with_reducible refine H1.out.mono ?_
      rintro e w1 ⟨rfl, hb1⟩
      go_wp2_with fail
      go_ret2
      exact ListE.error _ hb1
  · rw [if_neg hc]
    have hne : (checkM xs n != 0) = true := bne_iff_ne.2 hc
    generalize checkM xs n = q at *
    clear hc h hm hp
    go_enter Tryd.func45, Tryd.ntmps45
    go_wp2_with fail
    with_reducible refine H1.out.mono ?_
    rintro e w1 ⟨rfl, hb1⟩
    go_wp2_with fail
    go_ret2
    exact ListE.error _ hb1
end Go.Proofs.YtpbcomdlboiddaaDoor
