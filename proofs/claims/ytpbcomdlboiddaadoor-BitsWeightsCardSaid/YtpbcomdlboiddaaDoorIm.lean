
/- The reference of bits: an element appended to a list while a snapshot of it is walked. -/
import Derived.Test.YtpbcomdlboiddaaDoorGb
set_option linter.all false
set_option maxRecDepth 100000
namespace Go.Proofs.YtpbcomdlboiddaaDoor
open Go.RowKit

/-- The cells that an append to a list of one's own may not write: all but those behind its end in its own block. -/
def StillAt (w w' : World) (g n : Nat) : Prop := ∀ k j u, w.cell? ⟨k, j, none⟩ = some u → (k = g → j < n) → w'.cell? ⟨k, j, none⟩ = some u
theorem run_app_still (w : World) (t0 : TypeId) (B g c : Nat) (xs : List Int) (hown : Mine w B (.slice (some ⟨g, 0, none⟩) xs.length c) xs) (hB : B ≤ w.heap.size) (hl : xs.length ≤ 100000000)
    (b0 c0 : Nat) (x : Int) (hc : w.cell? ⟨b0, 0, none⟩ = some (.int .i64 x)) :
    ∃ g' c' w', (Builtin.append_ #[22, 22] t0 #[.slice (some ⟨g, 0, none⟩) xs.length c, .slice (some ⟨b0, 0, none⟩) 1 c0]).run Tryd.prog w = .ok (.slice (some ⟨g', 0, none⟩) (xs.length + 1) c') w' ∧
      Mine w' B (.slice (some ⟨g', 0, none⟩) (xs.length + 1) c') (xs ++ [x]) ∧ w.grownBy w' (some g) ∧ StillAt w w' g xs.length := by
  obtain ⟨i0, hi, hz0, hz1, hz2⟩ := info_parts info_int
  have hnews : ∀ j u, [iv x][j]? = some u → w.cell? ((⟨b0, 0, none⟩ : Addr).add j) = some u := by
    intro j u hj
    match j, hj with
    | 0, hj => simp at hj; subst hj; exact hc
  have h1 : ∀ u ∈ [iv x], u.oneCell' = true := by intro u hu; simp at hu; subst hu; rfl
  obtain ⟨v', w', hr, h2, h3, h4⟩ := run_append_own (P := Tryd.prog) w B 22 t0 3 i0 (.int .i64 0) 1 8 und_ints hi hz0 hz1 hz2 rfl (by decide) _ xs.length (xs.map iv) hown ⟨b0, 0, none⟩ 1 c0 [iv x] rfl hnews h1 (by unfold maxLen; omega) (by omega) hB
  have hv : ¬ v' = .slice none 0 0 := fun e => by have := (h4.1 e).2; omega
  have hS := hown.some_
  obtain ⟨_, hgB, hgs, hlc, cur, hg, htake, hcs, hcm⟩ := hS
  have hown2 : w'.ownsRow B 3 1 v' (xs.length + 1) (xs.map iv ++ [iv x]) := h2
  obtain ⟨hlen, hh | ⟨g', c', cur', rfl, hb', hg', hn', hm', hs', ht'⟩⟩ := h2
  · exact absurd hh.1 hv
  · refine ⟨g', c', w', hr, by unfold Mine; rw [List.length_append, List.map_append]; exact hown2, h3, fun k j u hu hk => ?_⟩
    have hks : k < w.heap.size := by
      rcases Nat.lt_or_ge k w.heap.size with h' | h'
      · exact h'
      · simp [World.cell?, Array.getElem?_eq_none h'] at hu
    by_cases hkg : k = g
    · subst hkg
      have hj := hk rfl
      by_cases hroom : xs.length + 1 ≤ c
      · have hfit : xs.length * i0.size + [iv x].length ≤ cur.size := by rw [hz1]; simp; omega
        have hr2 := run_append_room (P := Tryd.prog) (ty := t0) w 22 3 i0 und_ints hi k xs.length c cur hg ⟨b0, 0, none⟩ 1 c0 [iv x] (by rw [hz1]; rfl) hnews h1 hroom hfit
        rw [hr] at hr2
        injection hr2 with e1 e2
        injection e1 with e3
        injection e3 with e4
        injection e4 with e5
        subst e5
        have hc1 : (xs.map iv ++ [iv x])[j]? = some u := by
          rw [List.getElem?_append_left (by simpa using hj)]
          rw [cell_of_row w g' j cur 3 (0, 0) hg] at hu
          rw [← htake, List.getElem?_take_of_lt hj]
          simpa using hu
        have := hown2.cells (g := g') rfl j u hc1
        have hadd : (⟨g', 0, none⟩ : Addr).add j = ⟨g', j, none⟩ := by unfold Addr.add; split <;> simp_all
        rwa [hadd] at this
      · have holds : ∀ j u, (xs.map iv)[j]? = some u → w.cell? ((⟨k, 0, none⟩ : Addr).add j) = some u := World.ownsRow.cells hown (g := k) rfl
        have hr2 := run_append_grow (P := Tryd.prog) (ty := t0) w 22 3 i0 (.int .i64 0) und_ints hi hz0 ⟨k, 0, none⟩ xs.length c (xs.map iv) (by rw [hz1]; simp) holds ⟨b0, 0, none⟩ 1 c0 [iv x] (by rw [hz1]; rfl) hnews (by omega) (by omega) (growslice_fits (by omega) (by rw [hz2]; omega))
        rw [hr] at hr2
        injection hr2 with e1 e2
        subst e2
        rw [← hu]
        exact World.cell?_of_block (w := w) (heap_alloc_old w.drew _ hks)
    · rw [← hu]
      exact World.cell?_of_block (w := w) (h3.block k hks (fun e => hkg (Option.some.inj e)))
section
variable {ops : Array Oper} {o : Oper} {a : Act} {w : World}
theorem wpList_app_still {rest : List Oper} {Q : Exit → Act → World → Prop} (hgd : o.guard = none) (s y : Operand) (ho : o.op = .call { callee := .builtin .append, args := #[s, y], argTypes := #[22, 22] })
    (B g n c0 : Nat) (xs : List Int) (hs : a.eval s = .slice (some ⟨g, 0, none⟩) n c0) (hn : n = xs.length) (hown : Mine w B (.slice (some ⟨g, 0, none⟩) n c0) xs) (hB : B ≤ w.heap.size) (hl : xs.length ≤ 100000000)
    (b0 c : Nat) (x : Int) (hy : a.eval y = .slice (some ⟨b0, 0, none⟩) 1 c) (hc : w.cell? ⟨b0, 0, none⟩ = some (.int .i64 x))
    (h : ∀ g' c' w', Mine w' B (.slice (some ⟨g', 0, none⟩) (n + 1) c') (xs ++ [x]) → w.grownBy w' (some g) → StillAt w w' g xs.length → wpList Tryd.prog ops Q rest (a.put o.dst (.slice (some ⟨g', 0, none⟩) (n + 1) c')) w') :
    wpList Tryd.prog ops Q (o :: rest) a w := by
  subst hn
  obtain ⟨g', c', w', hr, h2, h3, h4⟩ := run_app_still w o.type B g c0 xs hown hB hl b0 c x hc
  refine wpList_plain hgd fun _ hK => ?_
  unfold Oper.wp execOp
  simp only [ho, resolve, invoke, builtin, Sem.run_bind, Sem.run_pure, Result.andThen_ok, List.map_toArray, List.map_cons, List.map_nil, hs, hy, hr]
  exact hK _ _ (h g' c' w' h2 h3 h4)
end
end Go.Proofs.YtpbcomdlboiddaaDoor
