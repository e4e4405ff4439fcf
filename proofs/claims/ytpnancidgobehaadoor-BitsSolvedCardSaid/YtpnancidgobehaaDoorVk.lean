
/- Rows of bits: of which rows a row is the sum; rows that are orthogonal. -/
import Derived.Test.YtpnancidgobehaaDoorZi
import Derived.Test.YtpnancidgobehaaDoorShelf
import Derived.Lib.OwnBridge
set_option linter.all false
set_option maxRecDepth 100000
namespace Go.Proofs.YtpnancidgobehaaDoor
open Go.RowKit

theorem Mine.slice {w : World} {B : Nat} {v : Value} {xs : List Int} (h : Mine w B v xs) : ∃ p c, v = .slice p xs.length c := by
  obtain ⟨p, c, h1, _⟩ := h.ints
  exact ⟨p, c, h1⟩
theorem bt_Reverse (v : Value) (xs : List Int) (B : Nat) (w : World) (h : Mine w B v xs) (hl : xs.length ≤ 1000000) :
    Calls Tryd.prog 70 #[v] w (fun e w' => e = .returned (.tuple #[]) ∧ Mine w' B v xs.reverse ∧ ∀ B0 w0, Below B0 w0 w → B0 ≤ B → Below B0 w0 w') := by
  have hiv : iv = Value.int .i64 := rfl
  by_cases hn : v = .slice none 0 0
  · subst hn
    have hx : xs = [] := by
      obtain ⟨hl', hh | ⟨g, cap, cur, h1, _⟩⟩ := h
      · simpa using hh.2
      · cases h1
    subst hx
    refine (Tryd.slices_Reverse_int_empty none 0 w).mono ?_
    rintro e w' ⟨h1, rfl⟩
    exact ⟨h1, h, fun _ _ hb _ => hb⟩
  · have h2 : w.ownsRow B 3 1 v xs.length (xs.map (Value.int .i64)) := by rw [← hiv]; exact h
    obtain ⟨g, cap, rfl, hbg, hlt, hnc, hcm, hlen, hH⟩ := Lib.holds_of_ownsRow h2 hn
    refine (Tryd.slices_Reverse_int g 0 cap xs w hH (by omega)).mono ?_
    rintro e w' ⟨h1, q, rfl⟩
    refine ⟨h1, ?_, fun B0 w0 hb hB0 => Lib.below_putRow hb (by omega)⟩
    have h3 := Lib.ownsRow_putRow (q := q) (k := xs.length) (ys := xs.reverse) h2 (by simp) (Nat.le_refl _)
    rw [List.take_of_length_le (by simp)] at h3
    unfold Mine
    rw [List.length_reverse]
    exact h3
set_option maxHeartbeats 1000000 in
theorem bt_made (A : List Sm) (hA : Small A) (b : Nat) (rv : Value) (row : Nat) (hr : row < R24) (w : World) (h : SysAt w b A rv) :
    Calls Tryd.prog 52 #[.pointer (some ⟨b, 0, none⟩), .int .i64 (row : Int)] w (Gives (.tuple #[.int .i64 ((madeM A row).1 : Int), .bool (madeM A row).2]) w) := by
  have hok : (⟨row, 0⟩ : Sm).ok := ⟨hr, by show (0 : Nat) < 1099511627776; omega⟩
  have hyk := restM_ok hA 24 0 _ hok
  have HM : Hid (Calls Tryd.prog 71 #[.pointer (some ⟨b, 0, none⟩), .agg #[.int .i64 (row : Int), .int .i64 0]] w (Gives (.agg #[.int .i64 ((restM A 24 0 ⟨row, 0⟩).row : Int), .int .i64 ((restM A 24 0 ⟨row, 0⟩).of : Int)]) w)) := bt_rest A hA b rv ⟨row, 0⟩ hok w h
  unfold madeM
  generalize restM A 24 0 ⟨row, 0⟩ = y at *
  clear h hok
  by_cases h0 : y.row = 0
  · dsimp only
    rw [if_pos h0]
    have hne : ((y.row : Int) != 0) = false := by rw [h0]; rfl
    clear h0
    go_enter Tryd.func52, Tryd.ntmps52
    go_wp2_with fail
    refine HM.out.mono ?_
    rintro e w1 ⟨rfl, hb1⟩
    go_wp2_with fail
    go_ret2
    exact ⟨rfl, below_al hb1 _⟩
  · dsimp only
    rw [if_neg h0]
    have hne : ((y.row : Int) != 0) = true := bne_iff_ne.2 (by omega)
    clear h0
    go_enter Tryd.func52, Tryd.ntmps52
    go_wp2_with fail
    refine HM.out.mono ?_
    rintro e w1 ⟨rfl, hb1⟩
    go_wp2_with fail
    go_ret2
    exact ⟨rfl, below_al hb1 _⟩
def leastM (l : List Nat) (row : Nat) : Nat × Int := if (madeM (spanned l).at_ row).2 then ((madeM (spanned l).at_ row).1, 0) else (0, 6)
set_option maxHeartbeats 1000000 in
theorem bt_leastMade (l : List Nat) (hl : ∀ x ∈ l, x < R24) (hn : l.length ≤ 40) (row : Nat) (hr : row < R24) (p : Option Addr) (cap : Nat) (w : World) (h : Ints w p (casts l)) :
    Calls Tryd.prog 59 #[.slice p l.length cap, .int .i64 (row : Int)] w (Gives (.tuple #[.int .i64 ((leastM l row).1 : Int), .int .i64 (leastM l row).2]) w) := by
  have HS : Hid (Calls Tryd.prog 46 #[.slice p l.length cap] w (Spans l w)) := bt_spanned l hl hn p cap w h
  have HM : Hid (∀ w' rv, SysAt w' w.heap.size (spanned l).at_ rv → Calls Tryd.prog 52 #[.pointer (some ⟨w.heap.size, 0, none⟩), .int .i64 (row : Int)] w' (Gives (.tuple #[.int .i64 ((madeM (spanned l).at_ row).1 : Int), .bool (madeM (spanned l).at_ row).2]) w')) := fun w' rv h' => bt_made _ (spanned_ok hl hn).1 w.heap.size rv row hr w' h'
  unfold leastM
  generalize (madeM (spanned l).at_ row).1 = r at *
  generalize (madeM (spanned l).at_ row).2 = q at *
  clear h
  cases q
  · go_enter Tryd.func59, Tryd.ntmps59
    go_wp2_with fail
    refine HS.out.mono ?_
    rintro e w1 ⟨rv, rfl, h1, h2, hb1⟩
    have H1 := Lib.hid h1
    clear h1 h2
    go_wp2_with fail
    refine (HM.out _ rv H1.out).mono ?_
    rintro e w2 ⟨rfl, hb2⟩
    go_wp2_with fail
    go_ret2
    exact ⟨rfl, below_via hb2 hb1⟩
  · go_enter Tryd.func59, Tryd.ntmps59
    go_wp2_with fail
    refine HS.out.mono ?_
    rintro e w1 ⟨rv, rfl, h1, h2, hb1⟩
    have H1 := Lib.hid h1
    clear h1 h2
    go_wp2_with fail
    refine (HM.out _ rv H1.out).mono ?_
    rintro e w2 ⟨rfl, hb2⟩
    go_wp2_with fail
    go_ret2
    exact ⟨rfl, below_via hb2 hb1⟩
theorem transposedM_lt {l : List Nat} (hl : l.length ≤ 24) (n : Nat) : ∀ x ∈ transposedM l n, x < R24 := by
  have key : ∀ (l : List Nat) (i k c : Nat), i + l.length ≤ 24 → c < R24 → colM l i k c < R24 := by
    intro l
    induction l with
    | nil => intro i k c _ hc; exact hc
    | cons r l ih =>
      intro i k c h hc
      simp only [List.length_cons] at h
      unfold colM
      refine ih (i + 1) k _ (by omega) ?_
      have h1 : r >>> k &&& 1 ≤ 1 := Nat.and_le_right
      have h2 : 2 ^ i ≤ 2 ^ 23 := Nat.pow_le_pow_right (by omega) (by omega)
      have h3 : (r >>> k &&& 1) <<< i < 2 ^ 24 := by
        rw [Nat.shiftLeft_eq]
        rcases (by omega : r >>> k &&& 1 = 0 ∨ r >>> k &&& 1 = 1) with h | h <;> rw [h] <;> omega
      have h4 := Nat.or_lt_two_pow (n := 24) (by simpa [R24] using hc) h3
      simpa [R24] using h4
  intro x hx
  simp only [transposedM, List.mem_map] at hx
  obtain ⟨k, _, rfl⟩ := hx
  exact key l 0 k 0 (by omega) (by unfold R24; omega)
theorem transposedM_len (l : List Nat) (n : Nat) : (transposedM l n).length = n := by simp [transposedM]
set_option maxHeartbeats 1000000 in
theorem bt_null (l : List Nat) (hl : l.length ≤ 24) (hx : ∀ x ∈ l, x < R24) (n : Nat) (hn : n ≤ 16) (p : Option Addr) (cap : Nat) (w : World) (h : Ints w p (casts l)) :
    Calls Tryd.prog 45 #[.slice p l.length cap, .int .i64 (n : Int)] w (Lists (nullM l n) w) := by
  have HT : Hid (Calls Tryd.prog 60 #[.slice p l.length cap, .int .i64 (n : Int)] w (fun e w' => ∃ v, e = .returned v ∧ Mine w' (w.heap.size + 1) v (casts (transposedM l n)) ∧ Below w.heap.size w w')) := bt_transposed l (by omega) hx n hn p cap w h
  have HS : Hid (∀ w' p' c', Ints w' p' (casts (transposedM l n)) → Calls Tryd.prog 46 #[.slice p' n c'] w' (Spans (transposedM l n) w')) := fun w' p' c' h' => by
    have := bt_spanned (transposedM l n) (transposedM_lt hl n) (by rw [transposedM_len]; omega) p' c' w' h'
    rwa [transposedM_len] at this
  have hrl : (spanned (transposedM l n)).rel.length ≤ 1000000 := by
    have := (spanned_ok (transposedM_lt hl n) (by rw [transposedM_len]; omega)).2.1
    rw [transposedM_len] at this
    omega
  have hlt := transposedM_len l n
  unfold Lists nullM
  generalize transposedM l n = t at *
  generalize hS : spanned t = S at *
  have HRL := Lib.hid hrl
  clear h hrl
  go_enter Tryd.func45, Tryd.ntmps45
  go_wp2_with fail
  refine HT.out.mono ?_
  rintro e w1 ⟨v, rfl, hm1, hb1⟩
  obtain ⟨p1, c1, rfl, hi1⟩ := hm1.ints
  rw [casts_len, hlt]
  have HI1 := Lib.hid hi1
  clear hm1 hi1 hlt
  go_wp2_with fail
  refine (HS.out _ _ _ HI1.out).mono ?_
  rintro e w2 ⟨rv, rfl, h1, h2, hb2⟩
  rw [hS] at h1 h2
  have c48 := h1.rel
  have hlt1 := h1.lt
  have hw1 := hb1.size
  have H2 : Hid (Mine w2 w.heap.size rv (casts S.rel)) := by
    obtain ⟨q1, q2 | ⟨g, cap', cur, q2, q3, q4⟩⟩ := h2
    · exact ⟨q1, .inl q2⟩
    · exact ⟨q1, .inr ⟨g, cap', cur, q2, by omega, q4⟩⟩
  have hb12 := below_via hb2 hb1
  clear h1 h2 hS
  go_wp2_with fail
  refine (bt_Reverse rv (casts S.rel) w.heap.size w2 H2.out (by rw [casts_len]; exact HRL.out)).mono ?_
  rintro e w3 ⟨rfl, h3, h4⟩
  have hb3 := h4 _ _ hb12 (Nat.le_refl _)
  clear h4
  go_wp2_with fail
  go_ret
  refine ⟨rv, rfl, hb3, ?_⟩
  have e : casts S.rel.reverse = (casts S.rel).reverse := by simp [casts]
  rw [e]
  exact h3
end Go.Proofs.YtpnancidgobehaaDoor
