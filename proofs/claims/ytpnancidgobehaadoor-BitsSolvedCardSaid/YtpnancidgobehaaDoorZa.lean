/- Rows of bits: the smallest functions. -/
import Derived.Test.YtpnancidgobehaaDoorZm
import Derived.Laws.BitsAllLaws
import Derived.Laws.AppendOwn
set_option linter.all false
set_option maxRecDepth 100000
namespace Go
theorem ofInt_i64 (a : Nat) (ha : a < 4611686018427387904) : (BitVec.ofInt 64 (a : Int)).toNat = a := by
  rw [BitVec.ofInt_natCast, BitVec.toNat_ofNat]; exact Nat.mod_eq_of_lt (by omega)
theorem i64_small (x : Nat) (h : x < 4611686018427387904) : IntKind.i64.wrap (x : Int) = x := by
  simp [IntKind.wrap, IntKind.bits, IntKind.signed]; omega
theorem i64_and_nat (a b : Nat) (ha : a < 4611686018427387904) (hb : b < 4611686018427387904) : bits .and .i64 (a : Int) (b : Int) = ((a &&& b : Nat) : Int) := by
  have hx : a &&& b < 2 ^ 62 := Nat.and_lt_two_pow _ (by omega)
  show IntKind.i64.wrap ((BitVec.ofInt 64 (a : Int) &&& BitVec.ofInt 64 (b : Int)).toNat : Int) = _
  rw [BitVec.toNat_and, ofInt_i64 a ha, ofInt_i64 b hb]
  exact i64_small _ (by omega)
theorem i64_or_nat (a b : Nat) (ha : a < 4611686018427387904) (hb : b < 4611686018427387904) : bits .or .i64 (a : Int) (b : Int) = ((a ||| b : Nat) : Int) := by
  have hx : a ||| b < 2 ^ 62 := Nat.or_lt_two_pow (by omega) (by omega)
  show IntKind.i64.wrap ((BitVec.ofInt 64 (a : Int) ||| BitVec.ofInt 64 (b : Int)).toNat : Int) = _
  rw [BitVec.toNat_or, ofInt_i64 a ha, ofInt_i64 b hb]
  exact i64_small _ (by omega)
theorem i64_xor_nat (a b : Nat) (ha : a < 4611686018427387904) (hb : b < 4611686018427387904) : bits .xor .i64 (a : Int) (b : Int) = ((a ^^^ b : Nat) : Int) := by
  have hx : a ^^^ b < 2 ^ 62 := Nat.xor_lt_two_pow (by omega) (by omega)
  show IntKind.i64.wrap ((BitVec.ofInt 64 (a : Int) ^^^ BitVec.ofInt 64 (b : Int)).toNat : Int) = _
  rw [BitVec.toNat_xor, ofInt_i64 a ha, ofInt_i64 b hb]
  exact i64_small _ (by omega)
end Go
namespace Go.Proofs.YtpnancidgobehaaDoor
open Go.RowKit

/-- Numbers as integers. -/
def casts (l : List Nat) : List Int := l.map fun n : Nat => (n : Int)
theorem casts_len (l : List Nat) : (casts l).length = l.length := by simp [casts]
theorem casts_at {l : List Nat} {i n : Nat} (h : l[i]? = some n) : (casts l)[i]? = some (n : Int) := by simp [casts, h]
/-- Integers lie where a slice leads. -/
def Ints (w : World) (p : Option Addr) (xs : List Int) : Prop := xs = [] ∨ ∃ b off, p = some ⟨b, off, none⟩ ∧ b < w.heap.size ∧ ∀ (i : Nat) (x : Int), xs[i]? = some x → w.cell? ⟨b, off + i, none⟩ = some (.int .i64 x)
theorem Ints.below {w w' : World} {p : Option Addr} {xs : List Int} (h : Ints w p xs) (hb : Below w.heap.size w w') : Ints w' p xs := by
  rcases h with h | ⟨b, off, rfl, hlt, hc⟩
  · exact .inl h
  · exact .inr ⟨b, off, rfl, Nat.lt_of_lt_of_le hlt hb.size, fun i x hx => by rw [(bcell hb).1 _ _ hlt]; exact hc i x hx⟩
theorem Ints.at_ {w : World} {p : Option Addr} {xs : List Int} (h : Ints w p xs) {k : Nat} {x : Int} (hx : xs[k]? = some x) : ∃ b off, p = some ⟨b, off, none⟩ ∧ b < w.heap.size ∧ w.cell? ⟨b, off + k, none⟩ = some (.int .i64 x) := by
  rcases h with rfl | ⟨b, off, rfl, hlt, hc⟩
  · simp at hx
  · exact ⟨b, off, rfl, hlt, hc k x hx⟩
def iv (x : Int) : Value := .int .i64 x
/-- The slice v is nil, or at the head of a block of its own, from block B on; it reads xs. -/
def Mine (w : World) (B : Nat) (v : Value) (xs : List Int) : Prop := w.ownsRow B 3 1 v xs.length (xs.map iv)
theorem Mine.ints {w : World} {B : Nat} {v : Value} {xs : List Int} (h : Mine w B v xs) : ∃ p c, v = .slice p xs.length c ∧ Ints w p xs := by
  obtain ⟨hl, hh | ⟨g, cap, cur, h1, h2, h3, h4, h5, h6, h7⟩⟩ := h
  · obtain ⟨rfl, hx⟩ := hh
    have : xs = [] := by simpa using hx
    subst this
    exact ⟨none, 0, rfl, .inl rfl⟩
  · refine ⟨_, cap, h1, ?_⟩
    by_cases hn : xs = []
    · exact .inl hn
    · refine .inr ⟨g, 0, rfl, (Array.getElem?_eq_some_iff.1 h3).1, fun i x hx => ?_⟩
      have hi : i < xs.length := (List.getElem?_eq_some_iff.1 hx).1
      have h8 : (xs.map iv)[i]? = some (iv x) := by rw [List.getElem?_map, hx]; rfl
      rw [← h7, List.getElem?_take_of_lt (by omega)] at h8
      rw [cell_of_row w g (0 + i) cur 3 (0, 0) h3, Nat.zero_add]
      simpa [iv] using h8
end Go.Proofs.YtpnancidgobehaaDoor
namespace Go.Proofs.YtpnancidgobehaaDoor

/-- A row, and, as the bits of a number, the given rows of which it is the sum. -/
structure Sm where
  row : Nat
  of : Nat
deriving DecidableEq
def sm0 : Sm := ⟨0, 0⟩
def Sm.plus (a b : Sm) : Sm := ⟨a.row ^^^ b.row, a.of ^^^ b.of⟩
def Sm.cells (a : Sm) : List Value := [.int .i64 (a.row : Int), .int .i64 (a.of : Int)]
abbrev R24 : Nat := 16777216
abbrev O40 : Nat := 1099511627776
def Sm.ok (a : Sm) : Prop := a.row < R24 ∧ a.of < O40
theorem xor24 {a b : Nat} (ha : a < R24) (hb : b < R24) : a ^^^ b < R24 := Nat.xor_lt_two_pow (n := 24) (by simpa [R24] using ha) (by simpa [R24] using hb)
theorem xor40 {a b : Nat} (ha : a < O40) (hb : b < O40) : a ^^^ b < O40 := Nat.xor_lt_two_pow (n := 40) (by simpa [O40] using ha) (by simpa [O40] using hb)
theorem Sm.plus_ok {a b : Sm} (ha : a.ok) (hb : b.ok) : (a.plus b).ok := ⟨xor24 ha.1 hb.1, xor40 ha.2 hb.2⟩
def xorL : List Nat → Nat → Nat
  | [], s => s
  | x :: l, s => xorL l (s ^^^ x)
theorem xorL_drop {l : List Nat} {k x : Nat} (h : l[k]? = some x) (s : Nat) : xorL (l.drop k) s = xorL (l.drop (k + 1)) (s ^^^ x) := by
  obtain ⟨hk, rfl⟩ := List.getElem?_eq_some_iff.1 h
  rw [List.drop_eq_getElem_cons hk]
  rfl
/-- Row k of a span. -/
def rowAt (A : List Sm) (k : Nat) : Sm := A.getD k sm0
/-- What is left of a row from column k on, 24 - k of them. -/
def restM (A : List Sm) : Nat → Nat → Sm → Sm
  | 0, _, x => x
  | n + 1, k, x => restM A n (k + 1) (if x.row.testBit k then x.plus (rowAt A k) else x)
/-- The greatest column below n in which a row has 1. -/
def leadM (r : Nat) : Nat → Option Nat
  | 0 => none
  | n + 1 => if r.testBit n then some n else leadM r n
def bring1 (x : Sm) (lead : Nat) (y : Sm) : Sm := if y.row.testBit lead then y.plus x else y
def bringM (A : List Sm) (x : Sm) (lead : Nat) : List Sm := (A.map (bring1 x lead)).set lead x
structure Sys where
  at_ : List Sm
  rel : List Nat
def stepM (S : Sys) (i row : Nat) : Sys :=
  match leadM (restM S.at_ 24 0 ⟨row, 2 ^ i⟩).row 24 with
  | some k => ⟨bringM S.at_ (restM S.at_ 24 0 ⟨row, 2 ^ i⟩) k, S.rel⟩
  | none => ⟨S.at_, S.rel ++ [(restM S.at_ 24 0 ⟨row, 2 ^ i⟩).of]⟩
def spanM : List Nat → Nat → Sys → Sys
  | [], _, S => S
  | r :: l, i, S => spanM l (i + 1) (stepM S i r)
def spanned (l : List Nat) : Sys := spanM l 0 ⟨List.replicate 24 sm0, []⟩
/-- A span at work: 24 rows that fit. -/
def Small (A : List Sm) : Prop := A.length = 24 ∧ ∀ y ∈ A, y.ok
theorem sm0_ok : sm0.ok := by unfold Sm.ok sm0; decide
theorem Small.at_ {A : List Sm} (h : Small A) (k : Nat) : (rowAt A k).ok := by
  unfold rowAt
  rw [List.getD_eq_getElem?_getD]
  cases hk : A[k]? with
  | none => exact sm0_ok
  | some y => exact h.2 y (List.mem_of_getElem? hk)
theorem Small.get {A : List Sm} (h : Small A) {k : Nat} (hk : k < 24) : A[k]? = some (rowAt A k) := by
  have := h.1
  unfold rowAt
  rw [List.getD_eq_getElem?_getD, List.getElem?_eq_getElem (by omega)]
  rfl
theorem restM_ok {A : List Sm} (h : Small A) : ∀ (n k : Nat) (x : Sm), x.ok → (restM A n k x).ok
  | 0, _, _, hx => hx
  | n + 1, k, x, hx => by
    unfold restM
    refine restM_ok h n (k + 1) _ ?_
    split
    · exact Sm.plus_ok hx (h.at_ k)
    · exact hx
theorem bring1_ok {x y : Sm} {k : Nat} (hx : x.ok) (hy : y.ok) : (bring1 x k y).ok := by
  unfold bring1
  split
  · exact Sm.plus_ok hy hx
  · exact hy
theorem bringM_small {A : List Sm} (h : Small A) {x : Sm} (hx : x.ok) (k : Nat) : Small (bringM A x k) := by
  refine ⟨by simp [bringM, h.1], fun y hy => ?_⟩
  rcases List.mem_or_eq_of_mem_set hy with hy | rfl
  · obtain ⟨z, hz, rfl⟩ := List.mem_map.1 hy
    exact bring1_ok hx (h.2 z hz)
  · exact hx
theorem leadM_lt {r k : Nat} : ∀ {n : Nat}, leadM r n = some k → k < n
  | 0, h => by simp [leadM] at h
  | n + 1, h => by
    unfold leadM at h
    split at h
    · injection h with h; omega
    · have := leadM_lt h; omega
def Sys.ok (S : Sys) (i : Nat) : Prop := Small S.at_ ∧ S.rel.length ≤ i ∧ ∀ r ∈ S.rel, r < O40
theorem stepM_ok {S : Sys} {i row : Nat} (h : S.ok i) (hr : row < R24) (hi : i < 40) : (stepM S i row).ok (i + 1) := by
  obtain ⟨h1, h2, h3⟩ := h
  have hx : (restM S.at_ 24 0 ⟨row, 2 ^ i⟩).ok := restM_ok h1 _ _ _ ⟨hr, by
    have : 2 ^ i < 2 ^ 40 := Nat.pow_lt_pow_right (by omega) hi
    simpa [O40] using this⟩
  unfold stepM
  split
  · exact ⟨bringM_small h1 hx _, by simpa using by omega, h3⟩
  · refine ⟨h1, by simp; omega, fun r hr => ?_⟩
    rcases List.mem_append.1 hr with hr | hr
    · exact h3 r hr
    · simp at hr; rw [hr]; exact hx.2
theorem spanM_ok : ∀ (l : List Nat) (i : Nat) (S : Sys), S.ok i → (∀ x ∈ l, x < R24) → i + l.length ≤ 40 → (spanM l i S).ok (i + l.length)
  | [], i, S, h, _, _ => by simpa [spanM] using h
  | r :: l, i, S, h, hl, hn => by
    simp only [List.length_cons] at hn ⊢
    have := spanM_ok l (i + 1) (stepM S i r) (stepM_ok h (hl r (by simp)) (by omega)) (fun x hx => hl x (by simp [hx])) (by omega)
    rwa [show i + 1 + l.length = i + (l.length + 1) by omega] at this
theorem start_ok : Sys.ok ⟨List.replicate 24 sm0, []⟩ 0 := ⟨⟨by simp, fun y hy => by rw [List.eq_of_mem_replicate hy]; exact sm0_ok⟩, by simp, by simp⟩
theorem spanned_ok {l : List Nat} (hl : ∀ x ∈ l, x < R24) (hn : l.length ≤ 40) : (spanned l).ok l.length := by
  have := spanM_ok l 0 _ start_ok hl (by omega)
  simpa [spanned] using this
theorem spanM_drop {l : List Nat} {k x : Nat} (h : l[k]? = some x) (S : Sys) : spanM (l.drop k) k S = spanM (l.drop (k + 1)) (k + 1) (stepM S k x) := by
  obtain ⟨hk, rfl⟩ := List.getElem?_eq_some_iff.1 h
  rw [List.drop_eq_getElem_cons hk]
  rfl
/-- The rows, with falling leads. -/
def reducedM (A : List Sm) : List Nat := ((A.filter fun y => decide (y ≠ sm0)).map Sm.row).reverse
def madeM (A : List Sm) (row : Nat) : Nat × Bool := let x := restM A 24 0 ⟨row, 0⟩; if x.row = 0 then (x.of, true) else (0, false)
def freeM (A : List Sm) (n : Nat) : List Nat := (List.range n).filter fun k => decide (rowAt A k = sm0)
def colM : List Nat → Nat → Nat → Nat → Nat
  | [], _, _, c => c
  | r :: l, i, k, c => colM l (i + 1) k (c ||| ((r >>> k &&& 1) <<< i))
def transposedM (l : List Nat) (n : Nat) : List Nat := (List.range n).map fun k => colM l 0 k 0
def nullM (l : List Nat) (n : Nat) : List Nat := (spanned (transposedM l n)).rel.reverse
def chosenM : List Nat → Nat → Nat → List Nat
  | [], _, _ => []
  | r :: l, i, which => if which.testBit i then r :: chosenM l (i + 1) which else chosenM l (i + 1) which
example : reducedM (spanned [3, 5, 6]).at_ = [5, 3] := by decide
example : nullM [3, 5, 6] 4 = [8, 7] := by decide
end Go.Proofs.YtpnancidgobehaaDoor
namespace Go.Proofs.YtpnancidgobehaaDoor
open Go.RowKit

theorem bt_has_val (r k : Nat) (hr : r < 4611686018427387904) : (Go.bits .and .i64 ((r : Int) / 2 ^ k) 1 == 1) = r.testBit k := by
  have h1 : ((r : Int) / 2 ^ k) = ((r / 2 ^ k : Nat) : Int) := by simp
  have h2 : r / 2 ^ k < 4611686018427387904 := Nat.lt_of_le_of_lt (Nat.div_le_self _ _) hr
  rw [h1, show (1 : Int) = ((1 : Nat) : Int) from rfl, i64_and_nat _ 1 h2 (by omega), Nat.testBit, Nat.shiftRight_eq_div_pow, Nat.and_comm 1]
  have h3 : r / 2 ^ k &&& 1 = r / 2 ^ k % 2 := Nat.and_one_is_mod _
  rw [h3]
  rcases Nat.mod_two_eq_zero_or_one (r / 2 ^ k) with h | h <;> rw [h] <;> rfl
theorem bt_has (r k : Nat) (w : World) (hr : r < 4611686018427387904) (hk : k < 64) : Calls Tryd.prog 73 #[.int .i64 (r : Int), .int .i64 (k : Int)] w (Gives (.bool (r.testBit k)) w) := by
  go_enter Tryd.func73, Tryd.ntmps73
  have hv := bt_has_val r k hr
  go_wp2
  go_ret
  exact ⟨rfl, Below.refl _ _⟩
theorem bt_add (l : List Nat) (p : Option Addr) (cap : Nat) (w : World) (h : Ints w p (casts l)) (hx : ∀ x ∈ l, x < O40) (hl : l.length ≤ 1000) :
    Calls Tryd.prog 62 #[.slice p l.length cap] w (Gives (.int .i64 (xorL l 0 : Nat)) w) := by
  go_enter Tryd.func62, Tryd.ntmps62
  go_wp2
  go_loop [3, 8] (fun t i => ∃ k s : Nat, k ≤ l.length ∧ i = .int .i64 k ∧ t = .int .i64 s ∧ s < O40 ∧ Hid (xorL l 0 = xorL (l.drop k) s)) (fun _ i => l.length - (intOf i).toNat)
  case atStart => exact ⟨0, 0, by omega, rfl, rfl, by decide, rfl⟩
  case round =>
    obtain ⟨k, s, hk, rfl, rfl, hs, HR⟩ := hrel
    by_cases hlt : k < l.length
    · obtain ⟨x, hxk⟩ : ∃ x, l[k]? = some x := ⟨_, List.getElem?_eq_getElem hlt⟩
      have hxl := hx x (List.mem_of_getElem? hxk)
      obtain ⟨b, off, rfl, hb, hc⟩ := h.at_ (casts_at hxk)
      have HD := Lib.hid (HR.out.trans (xorL_drop hxk s))
      have hxo := i64_xor_nat s x (by unfold O40 at hs; omega) (by unfold O40 at hxl; omega)
      have hso := xor40 hs hxl
      clear hxk HR hs hxl
      go_wp2
      go_round
      case rel => exact ⟨k + 1, _, by omega, by go_num, rfl, hso, HD.out⟩
      case measure => simp [intOf]; omega
    · have HE : Hid (xorL l 0 = s) := by rw [HR.out, List.drop_eq_nil_of_le (by omega)]; rfl
      clear HR
      go_wp2
      rw [HE.out]
      go_ret
      exact ⟨rfl, Below.refl _ _⟩
end Go.Proofs.YtpnancidgobehaaDoor
