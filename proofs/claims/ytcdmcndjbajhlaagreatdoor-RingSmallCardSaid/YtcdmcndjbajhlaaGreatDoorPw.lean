
/- The powers of w, yielded: the iterator's contract. -/
import Derived.Test.YtcdmcndjbajhlaaGreatDoorRf
import Derived.Test.YtcdmcndjbajhlaaGreatDoorJa
import Derived.Shelf.Abstract
import Derived.Shelf.RegionOpen
import Derived.OwnWalkIn
import Derived.TacticsInMore
import Derived.LoopNIn
import Derived.LoopIn
set_option linter.all false
set_option maxRecDepth 100000
namespace Go.Proofs.YtcdmcndjbajhlaaGreatDoor
open Go.RowKit Go.Shelf
attribute [local go_sem] Oper.semAt_some run_field_num

def pw : Nat → Nm
  | 0 => ⟨1, 0, 0, 0, 0⟩
  | n + 1 => ⟨-(pw n).D, (pw n).A, (pw n).B, (pw n).C, 0⟩
theorem pw_K (n : Nat) : (pw n).K = 0 := by cases n <;> rfl
theorem pw_le (n : Nat) : (pw n).le 1 := by
  induction n with
  | zero => unfold Nm.le pw; dsimp only; omega
  | succ n ih => unfold Nm.le at *; unfold pw; dsimp only; omega
abbrev pwv (k : Nat) : Value := .agg #[.int .i64 (pw k).A, .int .i64 (pw k).B, .int .i64 (pw k).C, .int .i64 (pw k).D]
abbrev encP (k : Nat) : Array Value := #[.int .i64 (k : Int), .agg #[.int .i64 (pw k).A, .int .i64 (pw k).B, .int .i64 (pw k).C, .int .i64 (pw k).D]]
/-- Block b holds the four cells of an array. -/
def Box4 (w : World) (b T : Nat) (A B C D : Int) : Prop := w.heap[b]? = some (.cells #[.int .i64 A, .int .i64 B, .int .i64 C, .int .i64 D] T (0, 0))
theorem Box4.cell {w : World} {b T : Nat} {A B C D : Int} (h : Box4 w b T A B C D) :
    w.cell? ⟨b, 0, none⟩ = some (.int .i64 A) ∧ w.cell? ⟨b, 1, none⟩ = some (.int .i64 B) ∧ w.cell? ⟨b, 2, none⟩ = some (.int .i64 C) ∧ w.cell? ⟨b, 3, none⟩ = some (.int .i64 D) := by
  unfold Box4 at h
  simp [World.cell?, h]
theorem Box4.free {w : World} {b T : Nat} {A B C D : Int} (h : Box4 w b T A B C D) :
    w.frozen? ⟨b, 0, none⟩ = false ∧ w.frozen? ⟨b, 1, none⟩ = false ∧ w.frozen? ⟨b, 2, none⟩ = false ∧ w.frozen? ⟨b, 3, none⟩ = false := by
  unfold Box4 at h
  simp [World.frozen?, h]
theorem Box4.lt {w : World} {b T : Nat} {A B C D : Int} (h : Box4 w b T A B C D) : b < w.heap.size := by
  rcases Nat.lt_or_ge b w.heap.size with h' | h'
  · exact h'
  · simp [Box4, Array.getElem?_eq_none h'] at h
theorem grownBy_set (W : World) (b o : Nat) (v : Value) : W.grownBy (W.setCell ⟨b, o, none⟩ v) (some b) :=
  ⟨rfl, rfl, rfl, by simp [World.setCell], fun k _ hk => Below.heap_setCell _ _ _ _ (fun e => hk (by rw [e]))⟩
theorem AbidesS.set {β : Type} {B : Nat} {J : β → World → Prop} (h : AbidesS B J) {s : β} {W : World} {b : Nat} (o : Nat) (v : Value) (hb : B ≤ b) (hs : J s W) : J s (W.setCell ⟨b, o, none⟩ v) :=
  h s W _ (some b) hs (grownBy_set W b o v) (fun r e => by cases e; exact hb)

set_option maxHeartbeats 2000000 in
theorem powers_stops (F : Fence) (n : Nat) (hF : F.fn 72) (hro : F.round = none) (hn : 1 ≤ n) (w : World) :
    SeqStopsS F n Tryz.prog 72 #[] encP (fun xs => xs = List.range 8) (fun pre => ∃ j, j < 8 ∧ pre = List.range (j + 1)) 8 w := fun l J Jx W _ hJ hJx hY h0 => by
  refine callsIn_of_wp Tryz.func72 rfl hF ?_ hro
  simp only [Tryz.ntmps72, List.size_toArray, List.length_cons, List.length_nil, Nat.reduceAdd, Nat.reduceSub, Array.replicate_succ, Array.replicate_zero, List.push_toArray, List.append_toArray, List.nil_append, List.cons_append]
  gi_wp2
  gi_loopw [5] (fun i wr => ∃ k : Nat, k ≤ 8 ∧ i = .int .i64 k ∧ Box4 wr W.heap.size 44 (pw k).A (pw k).B (pw k).C (pw k).D ∧ J (List.range k) wr) (fun i _ => 8 - (intOf i).toNat)
  case atStart => exact ⟨0, by omega, rfl, heap_alloc_new _ _, hJ.alloc _ h0⟩
  case round =>
    obtain ⟨k, hk, rfl, hB, hJk⟩ := hrel
    obtain ⟨c0, c1, c2, c3⟩ := hB.cell
    obtain ⟨f0, f1, f2, f3⟩ := hB.free
    have hp := pw_le k
    obtain ⟨⟨p1, p2⟩, ⟨p3, p4⟩, ⟨p5, p6⟩, ⟨p7, p8⟩⟩ := hp
    by_cases hlt : (k : Int) < 8
    · obtain ⟨fn, tmps, assign, body, hy, hR⟩ := hY (List.range k) k wr hJk (by simp; omega)
      dsimp only [encP] at hy
      gi_wp2
      refine hR.mono ?_
      rintro e W3 (⟨rfl, hJ3, hs3⟩ | ⟨rfl, hJx3⟩)
      · have hB3 : Box4 W3 W.heap.size 44 (pw k).A (pw k).B (pw k).C (pw k).D := by
          unfold Box4; rw [hs3.2 _ (Nat.le_refl _) hB.lt]; exact hB
        obtain ⟨c0, c1, c2, c3⟩ := hB3.cell
        obtain ⟨f0, f1, f2, f3⟩ := hB3.free
        gi_wp2
        go_roundw
        case rel => exact ⟨k + 1, by omega, by go_num, heap_set (heap_set (heap_set (heap_set hB3))), by rw [List.range_succ]; exact hJ.set _ _ (Nat.le_refl _) (hJ.set _ _ (Nat.le_refl _) (hJ.set _ _ (Nat.le_refl _) (hJ.set _ _ (Nat.le_refl _) hJ3)))⟩
        case measure => simp [intOf]; omega
      · gi_wp2
        refine bodyPost_ret (results_none rfl _ _ _) rfl ?_
        exact ⟨⟨_, rfl⟩, .inr ⟨_, ⟨k, by omega, List.range_succ.symm⟩, hJx3⟩⟩
    · gi_wp2
      have hk8 : k = 8 := by omega
      refine bodyPost_end (results_none rfl _ _ _) rfl ?_
      exact ⟨⟨_, rfl⟩, .inl (by have h := hJk; rw [hk8] at h; exact h)⟩
theorem bits_and7 (x : Int) : Go.bits .and .i64 x 7 = x % 8 := by
  show IntKind.i64.wrap ((BitVec.ofInt 64 x &&& BitVec.ofInt 64 7).toNat : Int) = _
  have h : BitVec.ofInt 64 (7:Int) = 7#64 := by decide
  rw [h, BitVec.toNat_and]
  have : (7#64).toNat = 2 ^ 3 - 1 := by decide
  rw [this, Nat.and_two_pow_sub_one_eq_mod, BitVec.toNat_ofInt, IntKind.wrap_i64]
  omega

set_option maxHeartbeats 2000000 in
theorem Omega_any (n : Int) (w : World) : Calls Tryz.prog 29 #[.int .i64 n] w (Gives (pw (n % 8).toNat).v w) := by
  have b7 := bits_and7
  refine (callsIn_wide (n := 10)).1 ?_
  refine callsIn_of_wp_marks Tryz.func29 rfl trivial ?_ rfl
  simp only [Tryz.ntmps29, List.size_toArray, List.length_cons, List.length_nil, Nat.reduceAdd, Nat.reduceSub, Array.replicate_succ, Array.replicate_zero, List.push_toArray, List.append_toArray, List.nil_append, List.cons_append]
  gi_wp2
  obtain ⟨W0, hW0⟩ : ∃ W0, (w.alloc (Obj.cells #[.int .i64 (n % 8)] 3)).alloc (Obj.cells #[.int .i64 0, .int .i64 0, .int .i64 0, .int .i64 0, .int .i64 0] 23) = W0 := ⟨_, rfl⟩
  have hsz1 : W0.heap.size ≤ w.heap.size + 2 := by rw [← hW0]; simp
  have hsz2 : w.heap.size + 2 ≤ W0.heap.size := by rw [← hW0]; simp
  have hn0 : W0.heap[w.heap.size]? = some (.cells #[.int .i64 (n % 8)] 3) := by
    rw [← hW0]; exact (Below.heap_alloc _ _ _ (by simp)).trans (heap_alloc_new w _)
  have hr0 : Box W0 (w.heap.size + 1) 23 nul := by
    rw [← hW0]
    have := heap_alloc_new (w.alloc (Obj.cells #[.int .i64 (n % 8)] 3)) (Obj.cells #[.int .i64 0, .int .i64 0, .int .i64 0, .int .i64 0, .int .i64 0] 23)
    simp only [World.size_alloc] at this
    exact this
  have hb0 : Below w.heap.size w W0 := by rw [← hW0]; exact (by repeat (first | with_reducible exact Below.refl _ _ | with_reducible refine below_al ?_ _ | with_reducible refine below_dN ?_ _ | with_reducible refine Below.drew ?_ | (with_reducible refine Below.setCell ?_ (by simp <;> omega) _) | (with_reducible refine below_via (by assumption) ?_)))
  rw [hW0]
  clear hW0
  refine wpIn_rangeFunc_ownS rfl (by omega) (gf := 72) (lb := #[]) rfl trivial (enters_of (by kernel_rfl)) (powers_stops Fence.wide (10 - 1) trivial rfl (by omega) W0) (Below.refl _ _) (fun _ => rfl)
    (fun pre W => (∀ j, j ∈ pre → (j : Int) ≠ n % 8) ∧ W.heap[w.heap.size]? = some (.cells #[.int .i64 (n % 8)] 3) ∧ Box W (w.heap.size + 1) 23 nul ∧ Below w.heap.size w W)
    (fun c pre W => c = .ret ∧ Box W (w.heap.size + 1) 23 (pw (n % 8).toNat) ∧ Below w.heap.size w W) ?hI ?hIx ⟨by simp, hn0, hr0, hb0⟩
    (fun x W a => ∃ Bx, W0.heap.size ≤ Bx ∧ Box4 W Bx 44 (pw x).A (pw x).B (pw x).C (pw x).D ∧ a = { tmps := #[.int .i64 n, .pointer (some ⟨w.heap.size, 0, none⟩), .pointer (some ⟨w.heap.size + 1, 0, none⟩), .int .i64 x, .pointer (some ⟨Bx, 0, none⟩), .int .i64 n, .int .i64 (n % 8), .int .i64 x, .agg #[.int .i64 (pw x).A, .int .i64 (pw x).B, .int .i64 (pw x).C, .int .i64 (pw x).D], undef, undef, undef, undef, undef, undef, undef], defers := [] })
    ?assign ?body ?ha ?done ?stop
  case hI =>
    rintro s A B row ⟨h1, h2, h3, h4⟩ hg hr
    refine ⟨h1, ?_, ?_, h4.grown hg h4.size (fun k e => by have := hr k e; omega)⟩
    · have hlt : w.heap.size < A.heap.size := (Array.getElem?_eq_some_iff.1 h2).1
      rw [hg.block _ hlt (fun e => by have := hr _ e.symm; omega)]; exact h2
    · unfold Box; rw [hg.block _ h3.lt (fun e => by have := hr _ e.symm; omega)]; exact h3
  case hIx =>
    rintro c s A B row ⟨h1, h3, h4⟩ hg hr
    refine ⟨h1, ?_, h4.grown hg h4.size (fun k e => by have := hr k e; omega)⟩
    unfold Box; rw [hg.block _ h3.lt (fun e => by have := hr _ e.symm; omega)]; exact h3
  case assign =>
    rintro l pre x W K ⟨h1, h2, h3, h4⟩ hK
    have hlt := h3.lt
    have hs4 := h4.size
    gi_wp2
    exact hK _ _ ⟨W.heap.size, by omega, heap_alloc_new _ _, rfl⟩ ⟨h1, (Below.heap_alloc _ _ _ (by omega)).trans h2, box_al h3 _, below_al h4 _⟩ ⟨by simp, fun k _ hk => Below.heap_alloc _ _ _ hk⟩
  case body =>
    rintro l pre x a2 W ⟨Bx, hBx, hB4, rfl⟩ ⟨h1, h2, h3, h4⟩ hlen
    have cn : W.cell? ⟨w.heap.size, 0, none⟩ = some (.int .i64 (n % 8)) := cell_of_one h2
    obtain ⟨c0, c1, c2, c3⟩ := hB4.cell
    obtain ⟨f0, f1, f2, f3, f4⟩ := h3.free
    obtain ⟨d0, d1, d2, d3, d4⟩ := h3.cell
    have hlt := h3.lt
    have H2 := Lib.hid h2
    have H3 := Lib.hid h3
    have HB4 := Lib.hid hB4
    clear h2 h3 hB4
    by_cases hx : (x : Int) = n % 8
    · have hxb : ((x : Int) == n % 8) = true := beq_iff_eq.2 hx
      have hxm : (n % 8).toNat = x := by omega
      rw [hxm]
      have HX := Lib.hid hx
      clear hx hxm
      gi_wp2_with (refine ⟨trivial, ?_⟩; gi_at_call 67; refine (CallsIn.inRound l (callsIn_wide.2 (over_any _ _ _ _ _ _))).mono ?_; rintro e w1 ⟨rfl, hb⟩; obtain ⟨hc, hf⟩ := bcell hb)
      refine ⟨sameFrom_set (sameFrom_set (sameFrom_set (sameFrom_set (sameFrom_set (sameFrom_below hb) (by omega) _ _) (by omega) _ _) (by omega) _ _) (by omega) _ _) (by omega) _ _, rfl, ?_, ?_⟩
      · unfold Box
        rw [pw_K]
        exact heap_set (heap_set (heap_set (heap_set (heap_set (H3.out.below hb hlt)))))
      · have hw1 := below_via hb h4
        exact ((((hw1.setCell (by simp) _).setCell (by simp) _).setCell (by simp) _).setCell (by simp) _).setCell (by simp) _
    · have hxb : ((x : Int) == n % 8) = false := beq_eq_false_iff_ne.2 hx
      have HX := Lib.hid hx
      clear hx
      gi_wp2
      refine ⟨SameFrom.refl _ _, ?_, H2.out, H3.out, h4⟩
      intro j hj
      rcases List.mem_append.1 hj with h | h
      · exact h1 j h
      · rw [List.mem_singleton.1 h]; exact HX.out
  case ha =>
    rintro x W a l o hl ⟨Bx, h1, h2, h3⟩ ⟨c, hc⟩
    refine ⟨Bx, h1, ?_, h3⟩
    unfold Box4 at *
    rw [World.putObj_heap_other (fun e => by rw [e] at h2; rw [h2] at hc; cases hc)]
    exact h2
  case done =>
    rintro D xs W rfl ⟨h1, h2⟩ hD hK
    exfalso
    refine h1 (n % 8).toNat ?_ ?_
    · rw [List.mem_range]; omega
    · omega
  case stop =>
    rintro D c pre W _ ⟨rfl, h3, h4⟩ hD hK
    gi_wp2
    refine ⟨by simp, .inl ⟨_, _, rfl, run_takeDeferred hK, ?_⟩⟩
    have h5 : Box (W.putObj D (.deferred none)) (w.heap.size + 1) 23 (pw (n % 8).toNat) := by
      unfold Box; rw [World.putObj_heap_other (by omega)]; exact h3
    obtain ⟨c0, c1, c2, c3, c4⟩ := h5.cell
    have h6 := h4.grown (grownBy_putObj' W D (.deferred none)) h4.size (fun k e => by cases e; omega)
    generalize W.putObj D (.deferred none) = W4 at *
    exact ⟨(pw (n % 8).toNat).v, by simp [results, Tryz.results29, go_sem, c0, c1, c2, c3, c4], rfl, h6⟩
end Go.Proofs.YtcdmcndjbajhlaaGreatDoor
