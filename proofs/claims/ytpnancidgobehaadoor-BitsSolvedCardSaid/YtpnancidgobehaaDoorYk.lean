
/- The outright laws of bits: lists of one's own beside a store; the calls at right rows. -/
import Derived.Test.YtpnancidgobehaaDoorYj
set_option linter.all false
set_option maxRecDepth 100000
namespace Go.Proofs.YtpnancidgobehaaDoor
open Go.RowKit
theorem dotB_low : ∀ n r x, dotB (n + 1) r x = ((r.testBit 0 && x.testBit 0) != dotB n (r / 2) (x / 2))
  | 0, r, x => by simp [dotB]
  | n + 1, r, x => by
    have h1 : dotB (n + 1 + 1) r x = (dotB (n + 1) r x != (r.testBit (n + 1) && x.testBit (n + 1))) := rfl
    have h2 : dotB (n + 1) (r / 2) (x / 2) = (dotB n (r / 2) (x / 2) != ((r / 2).testBit n && (x / 2).testBit n)) := rfl
    rw [h1, dotB_low n, h2, Nat.testBit_succ, Nat.testBit_succ]
    generalize (r.testBit 0 && x.testBit 0) = a
    generalize dotB n (r / 2) (x / 2) = b
    generalize ((r / 2).testBit n && (x / 2).testBit n) = c
    cases a <;> cases b <;> cases c <;> rfl
theorem par_and : ∀ n r x, parB n (r &&& x) = dotB n r x
  | 0, r, x => rfl
  | n + 1, r, x => by
    rw [parB_next, dotB_low, Nat.and_div_two, par_and n]
    congr 1
    rw [Nat.testBit_zero, Nat.testBit_zero, ← Bool.decide_and]
    have h1 : (r &&& x).testBit 0 = (r.testBit 0 && x.testBit 0) := Nat.testBit_and _ _ _
    rw [Nat.testBit_zero, Nat.testBit_zero, Nat.testBit_zero, ← Bool.decide_and] at h1
    exact h1
theorem odd_call {n r x : Nat} (hn : n ≤ 62) (hx : x < 2 ^ n) (w : World) : Calls Tryd.prog 15 #[.int .i64 ((r &&& x : Nat) : Int)] w (Gives (.bool (dotB n r x)) w) := by
  have h2 : r &&& x < 2 ^ 62 := Nat.lt_of_le_of_lt Nat.and_le_right (Nat.lt_of_lt_of_le hx (Nat.pow_le_pow_right (by omega) hn))
  have := lw_odd (r &&& x) h2 w
  rw [par_and, dotB_up hx hn] at this
  exact this
/-- What there is: a store, lists of one's own behind it, and nothing else has changed. -/
structure At (w : World) (bs L : Nat) (m : Int) (Ls : List (Value × List Nat)) (wk : World) : Prop where
  bel : Below w.heap.size w wk
  sto : StoreIn wk bs L w.heap.size m
  own : ∀ q ∈ Ls, Mine wk (bs + 1) q.1 (casts q.2)
theorem At.call {w wk wx : World} {bs L : Nat} {m : Int} {Ls : List (Value × List Nat)} (h : At w bs L m Ls wk) (hb : Below wk.heap.size wk wx) : At w bs L m Ls wx :=
  ⟨below_via hb h.bel, h.sto.below (bl_wider hb h.sto.1.2.2), fun q hq => (h.own q hq).call hb⟩
theorem At.draw {w wk wx : World} {bs L : Nat} {m : Int} {Ls : List (Value × List Nat)} (h : At w bs L m Ls wk) {m' : Int} (hS : StoreIn wx bs L w.heap.size m') (hB : Beside bs wk wx) : At w bs L m' Ls wx :=
  ⟨bl_then h.bel (hB.below h.sto.1.1 h.bel.size), hS, fun q hq => (h.own q hq).beside hB (by omega)⟩
theorem At.cons {w wk : World} {bs L : Nat} {m : Int} {Ls : List (Value × List Nat)} (h : At w bs L m Ls wk) {v : Value} {l : List Nat} (hv : Mine wk (bs + 1) v (casts l)) : At w bs L m ((v, l) :: Ls) wk :=
  ⟨h.bel, h.sto, fun q hq => by
    rcases List.mem_cons.1 hq with rfl | hq
    · exact hv
    · exact h.own q hq⟩
theorem At.list {w wk wx : World} {bs L : Nat} {m : Int} {Ls : List (Value × List Nat)} (h : At w bs L m Ls wk) {out : List Nat} {q : Int} {e : Ending} (hE : ListE out q wk e wx) :
    ∃ p c, e = .returned (.tuple #[.slice p out.length c, .int .i64 q]) ∧ At w bs L m ((.slice p out.length c, out) :: Ls) wx := by
  obtain ⟨v, rfl, hb, hown⟩ := hE
  have hlt := h.sto.1.2
  obtain ⟨p, c, rfl⟩ := hown.slice
  rw [casts_len] at hown ⊢
  exact ⟨p, c, rfl, (h.call hb).cons (hown.low (by omega))⟩
theorem At.ints {w wk : World} {bs L : Nat} {m : Int} {Ls : List (Value × List Nat)} (h : At w bs L m Ls wk) {p : Option Addr} {k c : Nat} {l : List Nat} (hm : (.slice p k c, l) ∈ Ls) : Ints wk p (casts l) := by
  obtain ⟨p', c', e, h2⟩ := (h.own _ hm).ints
  injection e with e1 e2 e3
  rw [e1]
  exact h2
theorem At.i0 {w wk : World} {bs L : Nat} {m : Int} {Ls : List (Value × List Nat)} {p : Option Addr} {k c : Nat} {l : List Nat} (h : At w bs L m ((.slice p k c, l) :: Ls) wk) : Ints wk p (casts l) := h.ints (k := k) (c := c) (by simp)
theorem At.i1 {w wk : World} {bs L : Nat} {m : Int} {Ls : List (Value × List Nat)} {a0 : Value × List Nat} {p : Option Addr} {k c : Nat} {l : List Nat} (h : At w bs L m (a0 :: (.slice p k c, l) :: Ls) wk) : Ints wk p (casts l) := h.ints (k := k) (c := c) (by simp)
theorem At.i2 {w wk : World} {bs L : Nat} {m : Int} {Ls : List (Value × List Nat)} {a0 a1 : Value × List Nat} {p : Option Addr} {k c : Nat} {l : List Nat} (h : At w bs L m (a0 :: a1 :: (.slice p k c, l) :: Ls) wk) : Ints wk p (casts l) := h.ints (k := k) (c := c) (by simp)
theorem At.i3 {w wk : World} {bs L : Nat} {m : Int} {Ls : List (Value × List Nat)} {a0 a1 a2 : Value × List Nat} {p : Option Addr} {k c : Nat} {l : List Nat} (h : At w bs L m (a0 :: a1 :: a2 :: (.slice p k c, l) :: Ls) wk) : Ints wk p (casts l) := h.ints (k := k) (c := c) (by simp)
theorem At.i4 {w wk : World} {bs L : Nat} {m : Int} {Ls : List (Value × List Nat)} {a0 a1 a2 a3 : Value × List Nat} {p : Option Addr} {k c : Nat} {l : List Nat} (h : At w bs L m (a0 :: a1 :: a2 :: a3 :: (.slice p k c, l) :: Ls) wk) : Ints wk p (casts l) := h.ints (k := k) (c := c) (by simp)
theorem At.i5 {w wk : World} {bs L : Nat} {m : Int} {Ls : List (Value × List Nat)} {a0 a1 a2 a3 a4 : Value × List Nat} {p : Option Addr} {k c : Nat} {l : List Nat} (h : At w bs L m (a0 :: a1 :: a2 :: a3 :: a4 :: (.slice p k c, l) :: Ls) wk) : Ints wk p (casts l) := h.ints (k := k) (c := c) (by simp)
theorem At.mono {w wk : World} {bs L : Nat} {m m' : Int} {Ls : List (Value × List Nat)} (h : At w bs L m Ls wk) (hm : m ≤ m') : At w bs L m' Ls wk := ⟨h.bel, h.sto.mono hm, h.own⟩
theorem At.tab {w wk : World} {bs L : Nat} {m : Int} {Ls : List (Value × List Nat)} (h : At w bs L m Ls wk) (hT : Tabbed w) : Tabbed wk := hT.below h.bel
theorem At.made {w w1 w2 : World} {bs L n most : Nat} {m : Int} {Ls : List (Value × List Nat)} {e : Ending} (h : At w bs L m Ls w1) (hM : MadePost w1 bs L w.heap.size m n most e w2) :
    ∃ p c l, e = .returned (.slice p l.length c) ∧ l.length ≤ most ∧ (∀ x ∈ l, x < 2 ^ n) ∧ At w bs L (m + 200) ((.slice p l.length c, l) :: Ls) w2 := by
  obtain ⟨v, l, rfl, h1, h2, h3, h4⟩ := hM
  have hlt := h.sto.1.2
  obtain ⟨p, c, rfl⟩ := h3.own.slice
  have ho := h3.own
  rw [casts_len] at ho ⊢
  exact ⟨p, c, l, rfl, h1, h2, (h.draw h4 h3.bes).cons (ho.low (by omega))⟩
/-- Rows that are made from another store, behind this one. -/
theorem At.beside_made {w w2 w3 : World} {bs b2 L L2 lo n most : Nat} {m mx : Int} {Ls : List (Value × List Nat)} {e : Ending} (h : At w bs L m Ls w2) (hM : MadePost w2 b2 L2 lo mx n most e w3) (hb : bs < b2) (hL : L ≤ b2) (hLs : Ls = [] := by rfl) :
    ∃ p c l, e = .returned (.slice p l.length c) ∧ l.length ≤ most ∧ (∀ x ∈ l, x < 2 ^ n) ∧ At w bs L m [(.slice p l.length c, l)] w3 := by
  obtain ⟨v, l, rfl, h1, h2, h3, h4⟩ := hM
  have hlt := h.sto.1
  have ho := h3.own
  obtain ⟨p, c, rfl⟩ := h3.own.slice
  rw [casts_len] at ho ⊢
  refine ⟨p, c, l, rfl, h1, h2, bl_then h.bel (h3.bes.below (by omega) h.bel.size), h.sto.below (h3.bes.below hL hlt.2.2), fun q hq => ?_⟩
  rw [List.mem_singleton.1 hq]
  exact ho.low (by have := h3.old; omega)
section
variable {l : List Nat} {n : Nat} (h1 : 1 ≤ n) (hn : n ≤ 16) (hll : l.length ≤ 24) (hl : ∀ x ∈ l, x < 2 ^ n) {p : Option Addr} {c : Nat} {w : World} (h : Ints w p (casts l))
include h1 hn hll hl h
theorem null_call : Calls Tryd.prog 12 #[.slice p l.length c, .int .i64 (n : Int)] w (ListE (orthR l n) 0 w) := by
  have := bt_Null (casts l) n p c w h (by rw [casts_len]; omega)
  unfold NullM at this
  rw [check_right h1 hn hll hl, if_pos rfl, nats_of, Int.toNat_natCast, null_eq hl hll (by omega), casts_len] at this
  exact this
theorem reduce_call : Calls Tryd.prog 13 #[.slice p l.length c, .int .i64 (n : Int)] w (ListE (redR l n) 0 w) := by
  have := bt_Reduce (casts l) n p c w h (by rw [casts_len]; omega)
  unfold ReduceM at this
  rw [check_right h1 hn hll hl, if_pos rfl, nats_of, reduced_eq (by omega) hl (by omega), casts_len] at this
  exact this
theorem rank_call : Calls Tryd.prog 33 #[.slice p l.length c, .int .i64 (n : Int)] w (Gives (.tuple #[.int .i64 ((redR l n).length : Int), .int .i64 0]) w) := by
  have := bt_Rank (casts l) n p c w h (by rw [casts_len]; omega)
  unfold ReduceM at this
  rw [check_right h1 hn hll hl, if_pos rfl, nats_of, reduced_eq (by omega) hl (by omega), casts_len] at this
  exact this
theorem weights_call (hT : Tabbed w) : Calls Tryd.prog 38 #[.slice p l.length c, .int .i64 (n : Int)] w (ListE (weightsR (redR l n) n) 0 w) := by
  have := bt_Weights (casts l) n p c w h (by rw [casts_len]; omega) hT.1 hT.2
  unfold WeightsM at this
  rw [check_right h1 hn hll hl, if_pos rfl, nats_of, Int.toNat_natCast, reduced_eq (by omega) hl (by omega), casts_len, weights_same _ _ (by have := rank_null hl; omega)] at this
  exact this
theorem member_call {x : Nat} (hx : x < 2 ^ n) (t : Bool) (ht : t = true ↔ InSp l x) : Calls Tryd.prog 21 #[.slice p l.length c, .int .i64 (n : Int), .int .i64 (x : Int)] w (Gives (.tuple #[.bool t, .int .i64 0]) w) := by
  have := bt_Member (casts l) n p c w h (by rw [casts_len]; omega) (x : Int)
  unfold MemberM at this
  have h2 := made_iff (inv_spanned (lt24 hn hl) (by omega)) (Nat.lt_of_lt_of_le hx (pow16 (by omega)))
  have h3 : (madeM (spanned l).at_ x).2 = t := by
    rw [Bool.eq_iff_iff, h2, ht]
  rw [if_pos (checkWith_right h1 hn hll hl hx), nats_of, Int.toNat_natCast, h3, casts_len] at this
  exact this
end
end Go.Proofs.YtpnancidgobehaaDoor
