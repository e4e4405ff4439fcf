
/- The reference of bits: lists of the call's own, taken over and written to. -/
import Derived.Test.YtpbcomdlboiddaaDoorGa
import Derived.Test.YtpbcomdlboiddaaDoorZk
import Derived.Test.YtpbcomdlboiddaaDoorSm
set_option linter.all false
set_option maxRecDepth 100000
namespace Go.Proofs.YtpbcomdlboiddaaDoor
open Go.RowKit

section
variable {ops : Array Oper} {o : Oper} {a : Act} {w : World}
theorem Ints.none_nil {w : World} {xs : List Int} (h : Ints w none xs) : xs = [] := by
  rcases h with h | ⟨b, off, h, _⟩
  · exact h
  · cases h
theorem wpList_appInts {rest : List Oper} {Q : Exit → Act → World → Prop} (hgd : o.guard = none) (s y : Operand) (ho : o.op = .call { callee := .builtin .append, args := #[s, y], argTypes := #[22, 22] })
    (B : Nat) (v : Value) (xs : List Int) (hs : a.eval s = v) (hown : Mine w B v xs) (hB : B ≤ w.heap.size)
    (p : Option Addr) (n c : Nat) (ys : List Int) (hy : a.eval y = .slice p n c) (hnl : n = ys.length) (hl : xs.length + ys.length ≤ 1000000) (hu : Ints w p ys) (hp : p = none → c = 0)
    (h : ∀ v' w', Mine w' B v' (xs ++ ys) → w.grownBy w' v.ownBlock → (v' = .slice none 0 0 → v = .slice none 0 0) → wpList Tryd.prog ops Q rest (a.put o.dst v') w') :
    wpList Tryd.prog ops Q (o :: rest) a w := by
  obtain ⟨i0, hi, hz0, hz1, hz2⟩ := info_parts info_int
  cases p with
  | none =>
    have hys := hu.none_nil
    subst hys
    simp at hnl
    subst hnl
    obtain rfl := hp rfl
    refine wpList_append_own_none hgd s y 22 ho B 3 i0 1 und_ints hi v xs.length (xs.map iv) hs hown hy ?_
    have := h v w (by simpa using hown) (World.grownBy.refl w _) id
    simpa using this
  | some ad =>
    subst hnl
    refine wpList_append_own w hgd s y 22 ho B 3 i0 (.int .i64 0) 1 8 und_ints hi hz0 hz1 hz2 rfl (by decide) v xs.length (xs.map iv) hs hown ad ys.length c (ys.map iv) hy (by simp) ?_ ?_ (by unfold maxLen; omega) (by omega) hB ?_
    · intro j z hz
      rw [List.getElem?_map, Option.map_eq_some_iff] at hz
      obtain ⟨x, hx, rfl⟩ := hz
      obtain ⟨b, off, h1, _, h2⟩ := hu.at_ hx
      cases h1
      have e : (⟨b, off, none⟩ : Addr).add j = ⟨b, off + j, none⟩ := by unfold Addr.add; split <;> simp_all
      rw [e]; exact h2
    · intro z hz
      rw [List.mem_map] at hz
      obtain ⟨x, _, rfl⟩ := hz
      rfl
    · intro v' w' hown' hgrow hnl
      refine h v' w' ?_ hgrow (fun e => (hnl.1 e).1)
      unfold Mine
      rw [List.length_append, List.map_append]
      exact hown'
end
/-- A slice of no length, at the head of an empty block. -/
theorem mine_empty (w : World) (B : Nat) (hB : B ≤ w.heap.size) : Mine (w.alloc (.cells #[] 3)) B (.slice (some ⟨w.heap.size, 0, none⟩) 0 0) [] :=
  ⟨rfl, .inr ⟨w.heap.size, 0, #[], rfl, hB, heap_alloc_new w _, Nat.le_refl _, by unfold maxLen; omega, rfl, rfl⟩⟩
/-- The block, the length and the room of a list of the call's own that is not nil. -/
theorem Mine.some_ {w : World} {B g n c : Nat} {xs : List Int} (h : Mine w B (.slice (some ⟨g, 0, none⟩) n c) xs) : n = xs.length ∧ B ≤ g ∧ g < w.heap.size ∧ xs.length ≤ c ∧ ∃ cur : Array Value, w.heap[g]? = some (.cells cur 3 (0, 0)) ∧ cur.toList.take xs.length = xs.map iv ∧ cur.size = c ∧ c ≤ maxLen := by
  obtain ⟨_, hh | ⟨g', c', cur, h1, h2, h3, h4, h5, h6, h7⟩⟩ := h
  · cases hh.1
  · cases h1
    exact ⟨rfl, h2, (Array.getElem?_eq_some_iff.1 h3).1, h4, cur, h3, by simpa using h7, by simpa using h6, h5⟩
theorem Mine.cell {w : World} {B g n c k : Nat} {xs : List Int} {x : Int} (h : Mine w B (.slice (some ⟨g, 0, none⟩) n c) xs) (hx : xs[k]? = some x) : w.cell? ⟨g, k, none⟩ = some (.int .i64 x) := by
  obtain ⟨_, _, _, _, cur, h3, h7, _⟩ := h.some_
  have hk : k < xs.length := (List.getElem?_eq_some_iff.1 hx).1
  rw [cell_of_row w g k cur 3 (0, 0) h3]
  have h8 : (xs.map iv)[k]? = some (iv x) := by rw [List.getElem?_map, hx]; rfl
  rw [← h7, List.getElem?_take_of_lt hk] at h8
  simpa [iv] using h8
theorem Mine.free {w : World} {B g n c : Nat} {xs : List Int} (h : Mine w B (.slice (some ⟨g, 0, none⟩) n c) xs) (k : Nat) : w.frozen? ⟨g, k, none⟩ = false := by
  obtain ⟨_, _, _, _, cur, h3, _⟩ := h.some_
  simp [World.frozen?, h3]
theorem Mine.set_ {w : World} {B g n c k : Nat} {xs : List Int} (h : Mine w B (.slice (some ⟨g, 0, none⟩) n c) xs) (hk : k < xs.length) (x : Int) : Mine (w.setCell ⟨g, k, none⟩ (.int .i64 x)) B (.slice (some ⟨g, 0, none⟩) n c) (xs.set k x) := by
  obtain ⟨h0, h1, h2, h3, cur, h4, h5, h6, h7⟩ := h.some_
  subst h0
  refine ⟨by simp, .inr ⟨g, c, cur.setIfInBounds k (.int .i64 x), by simp, h1, ?_, by simpa using h3, h7, by simpa using h6, ?_⟩⟩
  · simp [World.setCell, Array.getElem?_modify, h4]
  · rw [List.length_set, Nat.mul_one]
    simp only [Array.toList_setIfInBounds, List.map_set]
    rw [← h5]
    rw [List.take_set]
    rfl
/-- The first rows of a list of the call's own. -/
theorem Mine.first {w : World} {B g n c k : Nat} {xs : List Int} (h : Mine w B (.slice (some ⟨g, 0, none⟩) n c) xs) (hk : k ≤ xs.length) : Mine w B (.slice (some ⟨g, 0, none⟩) k c) (xs.take k) := by
  obtain ⟨h0, h1, h2, h3, cur, h4, h5, h6, h7⟩ := h.some_
  have hl : (xs.take k).length = k := by simp; omega
  refine ⟨by simp, .inr ⟨g, c, cur, by rw [hl], h1, h4, by omega, h7, by simpa using h6, ?_⟩⟩
  rw [hl, Nat.mul_one, List.map_take, ← h5, List.take_take, Nat.min_eq_left hk]
theorem idx_int {o : Oper} {a : Act} {s t : Operand} {b off n cap k : Nat} {W : World} (ho : o.op = .indexAddr 22 s t) (hs : a.eval s = .slice (some ⟨b, off, none⟩) n cap) (ht : a.eval t = .int .i64 k) (hk : k < n) :
    (execOp a.eval o).run Tryd.prog W = .ok (.value (.pointer (some ⟨b, off + k, none⟩))) W := by
  obtain ⟨dst, op, ty, pos, af, gd⟩ := o
  dsimp only at ho
  subst ho
  generalize a.eval = e at *
  have hk2 : (k : Int) < n := by omega
  simp [go_sem, hs, ht, hk2]
end Go.Proofs.YtpbcomdlboiddaaDoor
