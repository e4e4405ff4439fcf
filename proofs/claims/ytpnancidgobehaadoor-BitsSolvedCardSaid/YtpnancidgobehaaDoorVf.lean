
/- Rows of bits: an integer is put behind a list of the call's own. -/
import Derived.Test.YtpnancidgobehaaDoorVe
import Derived.Deep.AppendLies
import Derived.Deep.RegionLaw
import Derived.OwnWalk
set_option linter.all false
set_option maxRecDepth 100000
namespace Go.Proofs.YtpnancidgobehaaDoor
open Go.RowKit

theorem info_int : (Tryd.prog.info? 3).map (fun i => (i.zero, i.size, i.bytes)) = some (some (.int .i64 0), 1, 8) := by kernel_rfl
theorem und_ints : Tryd.prog.underlying 25 = some (.slice 3) := by kernel_rfl
theorem Mine.len {w : World} {B : Nat} {v : Value} {xs : List Int} (h : Mine w B v xs) {n : Nat} (hn : n = xs.length) : w.ownsRow B 3 1 v n (xs.map iv) := by subst hn; exact h
theorem Mine.nil (w : World) (B : Nat) : Mine w B (.slice none 0 0) [] := World.ownsRow_nil w B _ _
theorem Mine.lt {w : World} {B : Nat} {v : Value} {xs : List Int} (h : Mine w B v xs) {k : Nat} (hk : v.ownBlock = some k) : B ≤ k ∧ k < w.heap.size := World.ownsRow.lt h k hk
theorem Mine.kept {w w' : World} {B : Nat} {v : Value} {xs : List Int} (h : Mine w B v xs) (hk : ∀ k, v.ownBlock = some k → w'.heap[k]? = w.heap[k]?) : Mine w' B v xs := by
  obtain ⟨hl, hh | ⟨g, cap, cur, h1, h2, h3, h4⟩⟩ := h
  · exact ⟨hl, .inl hh⟩
  · subst h1
    exact ⟨hl, .inr ⟨g, cap, cur, rfl, h2, (hk g rfl).trans h3, h4⟩⟩
theorem Mine.call {w w' : World} {B : Nat} {v : Value} {xs : List Int} (h : Mine w B v xs) (hb : Below w.heap.size w w') : Mine w' B v xs := h.kept fun k hk => hb.block k (h.lt hk).2
theorem Mine.al {w : World} {B : Nat} {v : Value} {xs : List Int} (h : Mine w B v xs) (o : Obj) : Mine (w.alloc o) B v xs := h.call ((Below.refl _ w).alloc (Nat.le_refl _) o)
theorem Mine.drew {w : World} {B : Nat} {v : Value} {xs : List Int} (h : Mine w B v xs) : Mine w.drew B v xs := h
theorem Mine.beside {w w' : World} {B b : Nat} {v : Value} {xs : List Int} (h : Mine w B v xs) (hb : Beside b w w') (hn : b < B) : Mine w' B v xs := h.kept fun k hk => hb.block k (h.lt hk).2 (by have := (h.lt hk).1; omega)
theorem Mine.other {w : World} {B b o : Nat} {v u : Value} {xs : List Int} (h : Mine w B v xs) (hn : b < B) : Mine (w.setCell ⟨b, o, none⟩ u) B v xs := h.kept fun k hk => Below.heap_setCell w ⟨b, o, none⟩ u k (by have := (h.lt hk).1; show k ≠ b; omega)
theorem SysAt.grown {w w' : World} {b B : Nat} {A : List Sm} {rv v : Value} {xs : List Int} (h : SysAt w b A rv) (hm : Mine w B v xs) (hg : w.grownBy w' v.ownBlock) (hb : b < B) : SysAt w' b A rv :=
  ⟨h.1, (hg.block b h.lt (fun e => by have := (hm.lt e.symm).1; omega)).trans h.2⟩
theorem SBox.grown {w w' : World} {k B : Nat} {x : Sm} {v : Value} {xs : List Int} (h : SBox w k x) (hm : Mine w B v xs) (hg : w.grownBy w' v.ownBlock) (hk : k < B) : SBox w' k x :=
  (hg.block k h.lt (fun e => by have := (hm.lt e.symm).1; omega)).trans h
theorem cell_grown {w w' : World} {k o B : Nat} {v u : Value} {xs : List Int} (h : w.cell? ⟨k, o, none⟩ = some u) (hlt : k < w.heap.size) (hm : Mine w B v xs) (hg : w.grownBy w' v.ownBlock) (hk : k < B) : w'.cell? ⟨k, o, none⟩ = some u := by
  rw [World.cell?_of_block (hg.block k hlt (fun e => by have := (hm.lt e.symm).1; omega))]
  exact h
theorem below_grown {w w' : World} {B0 B : Nat} {w0 : World} {v : Value} {xs : List Int} (h : Below B0 w0 w) (hm : Mine w B v xs) (hg : w.grownBy w' v.ownBlock) (hB : B0 ≤ B) (hs : B0 ≤ w.heap.size) : Below B0 w0 w' :=
  h.grown hg hs fun k e => by have := (hm.lt e).1; omega
theorem beside_grown {w w' w0 : World} {b B : Nat} {v : Value} {xs : List Int} (h : Beside b w0 w) (hm : Mine w B v xs) (hg : w.grownBy w' v.ownBlock) (hs : w0.heap.size ≤ B) : Beside b w0 w' := by
  have hB : Below w0.heap.size w w' := (Below.refl _ w).grown hg h.size fun k e => by have := (hm.lt e).1; omega
  exact ⟨hB.os.trans h.os, hB.tape.trans h.tape, hB.output.trans h.output, Nat.le_trans h.size hB.size, fun k hk hn => (hB.block k hk).trans (h.block k hk hn)⟩

section
variable {ops : Array Oper} {o : Oper} {a : Act} {w : World}
theorem step_app {K : Act → World → Prop} {Q : Exit → Act → World → Prop} {E : Prop} (hgd : o.guard = none) (s y : Operand) (ho : o.op = .call { callee := .builtin .append, args := #[s, y], argTypes := #[25, 25] })
    (B : Nat) (v : Value) (xs : List Int) (hs : a.eval s = v) (hown : Mine w B v xs) (hB : B ≤ w.heap.size) (hl : xs.length ≤ 1000000)
    (g0 c : Nat) (x : Int) (hy : a.eval y = .slice (some ⟨g0, 0, none⟩) 1 c) (hc : w.cell? ⟨g0, 0, none⟩ = some (.int .i64 x))
    (h : ∀ g cap w', Mine w' B (.slice (some ⟨g, 0, none⟩) (xs.length + 1) cap) (xs ++ [x]) → w.grownBy w' v.ownBlock → (v.ownBlock = some g ∨ g = w.heap.size) → g < w'.heap.size → K (a.put o.dst (.slice (some ⟨g, 0, none⟩) (xs.length + 1) cap)) w') :
    if Region.wanted o (yielded ops a.tmps) = true then Oper.wp Tryd.prog o a w K Q else E := by
  obtain ⟨i0, hi, hz0, hz1, hz2⟩ := info_parts info_int
  refine step_append_lies w hgd s y 25 ho B 3 i0 (.int .i64 0) 1 8 und_ints hi hz0 hz1 hz2 rfl (by decide) v xs.length (xs.map iv) hs hown ⟨g0, 0, none⟩ 1 c [iv x] hy rfl ?_ (by intro u hu; simp at hu; subst hu; rfl) (by decide) (by unfold maxLen; omega) (by omega) hB w.heap.size rfl ?_
  · intro j u hj
    match j, hj with
    | 0, hj => simp at hj; subst hj; exact hc
  · intro g cap w' h1 h2 h3 h4
    refine h g cap w' ?_ h2 h3 h4
    unfold Mine
    rw [List.length_append, List.map_append]
    exact h1
theorem wpList_app {rest : List Oper} {Q : Exit → Act → World → Prop} (hgd : o.guard = none) (s y : Operand) (ho : o.op = .call { callee := .builtin .append, args := #[s, y], argTypes := #[25, 25] })
    (B : Nat) (v : Value) (xs : List Int) (hs : a.eval s = v) (hown : Mine w B v xs) (hB : B ≤ w.heap.size) (hl : xs.length ≤ 1000000)
    (g0 c : Nat) (x : Int) (hy : a.eval y = .slice (some ⟨g0, 0, none⟩) 1 c) (hc : w.cell? ⟨g0, 0, none⟩ = some (.int .i64 x))
    (h : ∀ g cap w', Mine w' B (.slice (some ⟨g, 0, none⟩) (xs.length + 1) cap) (xs ++ [x]) → w.grownBy w' v.ownBlock → (v.ownBlock = some g ∨ g = w.heap.size) → g < w'.heap.size → wpList Tryd.prog ops Q rest (a.put o.dst (.slice (some ⟨g, 0, none⟩) (xs.length + 1) cap)) w') :
    wpList Tryd.prog ops Q (o :: rest) a w := by
  obtain ⟨i0, hi, hz0, hz1, hz2⟩ := info_parts info_int
  refine wpList_append_lies w hgd s y 25 ho B 3 i0 (.int .i64 0) 1 8 und_ints hi hz0 hz1 hz2 rfl (by decide) v xs.length (xs.map iv) hs hown ⟨g0, 0, none⟩ 1 c [iv x] hy rfl ?_ (by intro u hu; simp at hu; subst hu; rfl) (by decide) (by unfold maxLen; omega) (by omega) hB w.heap.size rfl ?_
  · intro j u hj
    match j, hj with
    | 0, hj => simp at hj; subst hj; exact hc
  · intro g cap w' h1 h2 h3 h4
    refine h g cap w' ?_ h2 h3 h4
    unfold Mine
    rw [List.length_append, List.map_append]
    exact h1
end
end Go.Proofs.YtpnancidgobehaaDoor
