
/- The laws of bits: lists compared, taken over, and spoiled. -/
import Derived.Test.YtpnancidgobehaaDoorZk
import Derived.Lib.SliceRun
set_option linter.all false
set_option maxRecDepth 100000
namespace Go.Proofs.YtpnancidgobehaaDoor
open Go.RowKit

theorem nats_casts (l : List Nat) : nats (casts l) = l := by unfold nats casts; rw [List.map_map]; exact (List.map_congr_left fun x _ => Int.toNat_natCast x).trans (List.map_id l)
theorem Ints.none_nl {w : World} {xs : List Int} (h : Ints w none xs) : xs = [] := by
  rcases h with h | ⟨b, off, h, _⟩
  · exact h
  · cases h
theorem Ints.all {w : World} {b off : Nat} {xs : List Int} (h : Ints w (some ⟨b, off, none⟩) xs) : ∀ j, j < xs.length → w.cell? ⟨b, off + j, none⟩ = some (.int .i64 (xs.getD j 0)) := fun j hj => by
  have hx : xs[j]? = some (xs.getD j 0) := by rw [List.getD_eq_getElem?_getD, List.getElem?_eq_getElem hj]; rfl
  obtain ⟨b', o', e, _, hc⟩ := h.at_ hx
  cases e
  exact hc
theorem bt_Equal (xs ys : List Int) (p q : Option Addr) (ca cb : Nat) (w : World) (h : Ints w p xs) (hy : Ints w q ys) (hm : xs.length ≤ 9223372036854775807) (hmy : ys.length ≤ 9223372036854775807) :
    Calls Tryd.prog 22 #[.slice p xs.length ca, .slice q ys.length cb] w (Gives (.bool (decide (xs = ys))) w) := by
  by_cases h0 : xs = []
  · subst h0
    refine (Tryd.slices_Equal_int_empty p q ca ys.length cb w hmy).mono ?_
    rintro e w' ⟨rfl, rfl⟩
    refine ⟨?_, Below.refl _ _⟩
    congr 2
    rw [decide_eq_decide]
    constructor
    · intro e; exact (List.length_eq_zero_iff.1 e).symm
    · intro e; rw [← e]; rfl
  · by_cases hl : xs.length = ys.length
    · have h1 : ys ≠ [] := fun e => h0 (by rw [e] at hl; exact List.length_eq_zero_iff.1 hl)
      rcases h with h | ⟨b1, o1, rfl, hb1, hc1⟩
      · exact absurd h h0
      · rcases hy with h | ⟨b2, o2, rfl, hb2, hc2⟩
        · exact absurd h h1
        · have hx := Ints.all (.inr ⟨b1, o1, rfl, hb1, hc1⟩)
          have hy := Ints.all (.inr ⟨b2, o2, rfl, hb2, hc2⟩)
          refine (Tryd.slices_Equal_int b1 o1 xs.length ca b2 o2 ys.length cb xs ys w (Nat.le_refl _) (Nat.le_refl _) hm hmy hx hy).mono ?_
          rintro e w' ⟨rfl, q', rfl⟩
          refine ⟨?_, below_dN (Below.refl _ _) _⟩
          rw [List.take_of_length_le (Nat.le_refl _), List.take_of_length_le (Nat.le_refl _)]
          congr 2
          rw [Bool.eq_iff_iff]; simp
    · refine (Tryd.slices_Equal_int_lens p q xs.length ca ys.length cb w hl).mono ?_
      rintro e w' ⟨rfl, rfl⟩
      refine ⟨?_, Below.refl _ _⟩
      congr 2
      exact (decide_eq_false (fun e => hl (by rw [e]))).symm
/-- A copy of a list of integers. -/
def Copies (xs : List Int) (w : World) (e : Ending) (w' : World) : Prop := ∃ v, e = .returned v ∧ Mine w' w.heap.size v xs ∧ Below w.heap.size w w'
theorem bt_Clone (xs : List Int) (p : Option Addr) (cap : Nat) (w : World) (h : Ints w p xs) (hm : xs.length ≤ 1000000) :
    Calls Tryd.prog 24 #[.slice p xs.length cap] w (Copies xs w) := by
  cases p with
  | none =>
    have := h.none_nl
    subst this
    refine (Tryd.slices_Clone_int_nil 0 cap w).mono ?_
    rintro e w' ⟨rfl, rfl⟩
    exact ⟨_, rfl, Mine.nil _ _, Below.refl _ _⟩
  | some ad =>
    by_cases h0 : xs = []
    · subst h0
      refine (Tryd.slices_Clone_int_zero ad cap w).mono ?_
      rintro e w' ⟨v, rfl, h1, _, h2⟩
      exact ⟨v, rfl, h1, h2⟩
    · rcases h with h | ⟨b1, o1, hp, hb1, hc1⟩
      · exact absurd h h0
      · cases hp
        have hx := Ints.all (.inr ⟨b1, o1, rfl, hb1, hc1⟩)
        refine (Tryd.slices_Clone_int b1 o1 xs.length cap xs w (Nat.le_refl _) (by omega) hx).mono ?_
        rintro e w' ⟨v, rfl, h1, _, h2⟩
        rw [List.take_of_length_le (Nat.le_refl _)] at h1
        exact ⟨v, rfl, h1, h2⟩
theorem zero_int (w : World) : (zeroValue 3).run Tryd.prog w = .ok (.int .i64 0) w := by kernel_rfl
theorem bt_below_setCells {B b : Nat} {a : World} (hb : B ≤ b) : ∀ (vs : List Value) (o : Nat) (w : World), Below B a w → Below B a (w.setCells b o vs)
  | [], _, _, h => h
  | v :: vs, o, w, h => bt_below_setCells hb vs (o + 1) _ (h.setCell (by exact hb) v)
/-- The list is spoiled: below its block all is as it was. -/
theorem bt_clear (v : Value) (xs : List Int) (B : Nat) (w : World) (h : Mine w B v xs) : ∃ w', (∀ ty, (Builtin.clear_ #[25] ty #[v]).run Tryd.prog w = .ok (.tuple #[]) w') ∧ ∀ B0 w0, Below B0 w0 w → B0 ≤ B → Below B0 w0 w' := by
  by_cases hv : v = .slice none 0 0
  · subst hv
    exact ⟨w, fun ty => by simp [Builtin.clear_, run_underlying und_ints], fun _ _ h _ => h⟩
  · obtain ⟨_, hh | ⟨g, c, cur, rfl, h2, h3, h4, h5, h6, h7⟩⟩ := h
    · exact absurd hh.1 hv
    · by_cases h0 : xs.length = 0
      · rw [h0]
        exact ⟨w, fun ty => by simp [Builtin.clear_, run_underlying und_ints], fun _ _ h _ => h⟩
      · refine ⟨_, fun ty => Lib.run_clear_slice w 25 3 ty (.int .i64 0) und_ints zero_int rfl rfl g 0 xs.length c (by omega) (fun j hj => ?_) (fun j hj => ?_), fun B0 w0 hb hB => bt_below_setCells (by omega) _ _ _ hb⟩
        · rw [cell_of_row w g (0 + j) cur 3 (0, 0) h3, Nat.zero_add, Array.getElem?_eq_getElem (by omega)]; rfl
        · simp [World.frozen?, h3]
/-- A bool, and below B all is as it was. -/
def GivesB (v : Value) (B : Nat) (w : World) (e : Ending) (w' : World) : Prop := e = .returned v ∧ ∀ B0 w0, Below B0 w0 w → B0 ≤ B → Below B0 w0 w'
end Go.Proofs.YtpnancidgobehaaDoor
