
/- The outright laws of bits: what is there behind the draws. -/
import Derived.Test.YtpnancidgobehaaDoorIy
import Derived.Test.YtpnancidgobehaaDoorIx
import Derived.Test.YtpnancidgobehaaDoorBk
import Derived.Test.YtpnancidgobehaaDoorGk
set_option linter.all false
set_option maxRecDepth 100000
namespace Go.Proofs.YtpnancidgobehaaDoor
open Go.RowKit
theorem GivenI.below {w w' : World} {p : Option Addr} {n c : Nat} (h : GivenI w p n c) (hb : Below w.heap.size w w') : GivenI w' p n c := by
  rcases h with h | ⟨ad, zs, e, h1, h2, h3, h4⟩
  · exact .inl h
  · exact .inr ⟨ad, zs, e, h1, h2, h3, h4.below hb⟩
theorem bl_wider {A B : Nat} {w w' : World} (h : Below B w w') (hA : A ≤ B) : Below A w w' := ⟨h.os, h.tape, h.output, h.size, fun k hk => h.block k (by omega)⟩
theorem bl_then {A : Nat} {w w1 w2 : World} (h : Below A w w1) (k : Below A w1 w2) : Below A w w2 := ⟨k.os.trans h.os, k.tape.trans h.tape, k.output.trans h.output, Nat.le_trans h.size k.size, fun i hi => (k.block i hi).trans (h.block i hi)⟩
/-- Rows that were made: the world behind, what lies in it. -/
structure MadeAt (w : World) (b : Nat) (v : Value) (l : List Nat) (n : Nat) (w3 : World) : Prop where
  bel : Below w.heap.size w w3
  own : Mine w3 (b + 1) v (casts l)
  le : w.heap.size ≤ b
  lt : ∀ x ∈ l, x < 2 ^ n
/-- Behind the draws nothing of what was there before has changed. -/
theorem made_at {w w1 w2 : World} {b L lo n most : Nat} {m : Int} {e : Ending} (h : MadePost w1 b L lo m n most e w2) (hb : Below w.heap.size w w1) (hl : w.heap.size ≤ b) : ∃ (v : Value) (l : List Nat), e = .returned v ∧ l.length ≤ most ∧ MadeAt w b v l n w2 ∧ StoreIn w2 b L lo (m + 200) ∧ Beside b w1 w2 := by
  obtain ⟨v, l, rfl, h1, h2, h3, h4⟩ := h
  have hlt := h3.old
  refine ⟨v, l, rfl, h1, ⟨bl_then hb (h3.bes.below hl hb.size), ?_, hl, h2⟩, h4, h3.bes⟩
  obtain ⟨g1, g2 | ⟨g, cap, cur, g3, g4, g5⟩⟩ := h3.own
  · exact ⟨g1, .inl g2⟩
  · exact ⟨g1, .inr ⟨g, cap, cur, g3, by omega, g5⟩⟩
theorem MadeAt.beside {w w3 w4 : World} {b bs n : Nat} {v : Value} {l : List Nat} (h : MadeAt w b v l n w3) (hB : Beside bs w3 w4) (h1 : w.heap.size ≤ bs) (h2 : bs ≤ b) : MadeAt w b v l n w4 :=
  ⟨bl_then h.bel (hB.below h1 h.bel.size), h.own.beside hB (by omega), h.le, h.lt⟩
theorem MadeAt.ints {w w3 : World} {b n k c : Nat} {p : Option Addr} {l : List Nat} (h : MadeAt w b (.slice p k c) l n w3) : Ints w3 p (casts l) := by
  obtain ⟨p', c', e, h2⟩ := h.own.ints
  cases e
  exact h2
theorem lt24 {n : Nat} {l : List Nat} (hn : n ≤ 16) (h : ∀ x ∈ l, x < 2 ^ n) : ∀ x ∈ l, x < R24 := fun x hx => Nat.lt_of_lt_of_le (h x hx) (pow16 (by omega))
theorem coset_call {l : List Nat} {n x : Nat} (h1 : 1 ≤ n) (hn : n ≤ 16) (hll : l.length ≤ 24) (hl : ∀ x ∈ l, x < 2 ^ n) (hx : x < 2 ^ n) {p : Option Addr} {c : Nat} {w : World} (h : Ints w p (casts l)) (hT : Tabbed w) :
    Calls Tryd.prog 40 #[.slice p l.length c, .int .i64 (n : Int), .int .i64 (x : Int)] w (Gives (.tuple #[.int .i64 (cosetR (redR l n) x : Nat), .int .i64 0]) w) := by
  have := bt_Coset (casts l) n x p c w h (by rw [casts_len]; omega) hT.1 hT.2
  unfold CosetM at this
  rw [if_pos (checkWith_right h1 hn hll hl hx), nats_of, Int.toNat_natCast, reduced_eq (by omega) hl (by omega), casts_len] at this
  rw [← coset_same _ _ (by have := rank_null hl; omega)]
  exact this
theorem member_yes {l : List Nat} {n x : Nat} (h1 : 1 ≤ n) (hn : n ≤ 16) (hll : l.length ≤ 24) (hl : ∀ x ∈ l, x < 2 ^ n) (hx : InSp l x) {p : Option Addr} {c : Nat} {w : World} (h : Ints w p (casts l)) :
    Calls Tryd.prog 21 #[.slice p l.length c, .int .i64 (n : Int), .int .i64 (x : Int)] w (Gives (.tuple #[.bool true, .int .i64 0]) w) := by
  have := bt_Member (casts l) n p c w h (by rw [casts_len]; omega) (x : Int)
  unfold MemberM at this
  rw [if_pos (checkWith_right h1 hn hll hl (hx.lt hl)), nats_of, Int.toNat_natCast, (made_iff (inv_spanned (lt24 hn hl) (by omega)) (Nat.lt_of_lt_of_le (hx.lt hl) (pow16 (by omega)))).2 hx, casts_len] at this
  exact this
theorem weight_call {x : Nat} (hx : x < 2 ^ 62) (w : World) : Calls Tryd.prog 41 #[.int .i64 (x : Int)] w (Gives (.tuple #[.int .i64 ((weightM x : Nat) : Int), .int .i64 0]) w) := by
  have := bt_Weight (x : Int) (by omega) w
  unfold WeightM at this
  rw [if_neg (by omega), Int.toNat_natCast] at this
  exact this
theorem ones_call {x : Nat} (hx : x < 2 ^ 62) (w : World) : Calls Tryd.prog 42 #[.int .i64 (x : Int)] w (Gives (.int .i64 ((weightM x : Nat) : Int)) w) := by
  rw [← weight62 hx]
  exact lw_ones x hx w
theorem in_u32 {q : Nat} (h0 : 0 < q) (h : q ≤ 65536) : (1 : Int) ≤ q ∧ (q : Int) ≤ 4294967296 := by omega
end Go.Proofs.YtpnancidgobehaaDoor
