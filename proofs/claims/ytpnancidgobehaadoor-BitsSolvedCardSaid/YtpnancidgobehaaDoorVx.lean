
/- The lightest member of a coset. -/
import Derived.Test.YtpnancidgobehaaDoorVw
import Derived.Test.YtpnancidgobehaaDoorVt
set_option linter.all false
set_option maxRecDepth 100000
namespace Go.Proofs.YtpnancidgobehaaDoor
open Go.RowKit Go.Shelf
attribute [local go_sem] Oper.semAt_some

/-- The lightest of what was met so far. -/
def bestL (R : List Nat) (r : Nat) (pre : List Nat) : Nat := pre.foldl (fun b i => if lighterM (r ^^^ memM R i) b then r ^^^ memM R i else b) r
theorem bestL_snoc (R : List Nat) (r : Nat) (pre : List Nat) (i : Nat) : bestL R r (pre ++ [i]) = if lighterM (r ^^^ memM R i) (bestL R r pre) then r ^^^ memM R i else bestL R r pre := by
  unfold bestL
  rw [List.foldl_append, List.foldl_cons, List.foldl_nil]
theorem bestL_lt {R : List Nat} (hR : ∀ x ∈ R, x < R24) {r : Nat} (hr : r < R24) (n : Nat) (pre : List Nat) (hn : pre.length = n) : bestL R r pre < R24 := by
  induction n generalizing pre with
  | zero => rw [List.length_eq_zero_iff.1 hn]; exact hr
  | succ n ih =>
    obtain ⟨q, i, rfl⟩ : ∃ q i, pre = q ++ [i] := ⟨pre.dropLast, pre.getLast (by intro h; simp [h] at hn), (List.dropLast_concat_getLast _).symm⟩
    rw [bestL_snoc]
    split
    · exact (Nat.xor_lt_two_pow (n := 24) hr (memM_lt R hR i) : _ < 2 ^ 24)
    · exact ih q (by simpa using hn)
theorem tab_below {g : Nat} {t : List Nat} {B : Nat} {w w' : World} (h : TabAt g t w) (hb : Below B w w') (hg : g < B) : TabAt g t w' := fun j hj => by
  have := h j hj
  unfold World.cell? at this ⊢
  dsimp only at this ⊢
  rw [hb.block g hg]
  exact this
set_option maxHeartbeats 4000000 in
theorem bt_Coset_ok (xs : List Int) (n : Int) (r : Nat) (p : Option Addr) (cap : Nat) (w : World) (h : Ints w p xs) (hm : xs.length ≤ 9223372036854775807) (hc : checkedWithM xs n r = 0) (ht : TabAt 1 Lib.deBruijn64tab w) (hg : 1 < w.heap.size) :
    Calls Tryd.prog 40 #[.slice p xs.length cap, .int .i64 n, .int .i64 (r : Int)] w (Gives (.tuple #[.int .i64 (bestL (reducedM (spanned (nats xs)).at_) r (List.range (2 ^ (reducedM (spanned (nats xs)).at_).length)) : Nat), .int .i64 0]) w) := by
  have H1 : Hid (∀ w', Below w.heap.size w w' → Calls Tryd.prog 51 #[.slice p xs.length cap, .int .i64 n, .int .i64 (r : Int)] w' (Gives (.int .i64 (checkedWithM xs n r)) w')) := fun w' hb => bt_checkedWith xs n r p cap w' (h.below hb) hm
  obtain ⟨hc1, hr0, hr1, _⟩ := checkedWithM_ok hc
  have R := right_of hc1
  rw [hc] at H1
  rw [Int.toNat_natCast] at hr1
  have HN : Hid (∀ w', Below w.heap.size w w' → Calls Tryd.prog 46 #[.slice p xs.length cap] w' (Spans (nats xs) w')) := fun w' hb => by
    have := bt_spanned (nats xs) R.r24 (by have := R.len; omega) p cap w' (by have := h.below hb; rwa [R.hx] at this)
    rwa [nats_len] at this
  have HS : Hid (Small (spanned (nats xs)).at_) := Lib.hid (spanned_ok R.r24 (by have := R.len; omega)).1
  have HA : Hid (∀ (x y : Nat) b w', x < O40 → y < O40 → w'.cell? ⟨b, 0, none⟩ = some (.int .i64 (x : Int)) → w'.cell? ⟨b, 1, none⟩ = some (.int .i64 (y : Int)) → b < w'.heap.size → Calls Tryd.prog 62 #[.slice (some ⟨b, 0, none⟩) 2 2] w' (Gives (.int .i64 ((x ^^^ y : Nat) : Int)) w')) := fun x y b w' hx hy h0 h1 hb => bt_add2 x y b w' hx hy h0 h1 hb
  have HL : Hid (∀ (x y : Nat) w', x < R24 → y < R24 → Calls Tryd.prog 67 #[.int .i64 (x : Int), .int .i64 (y : Int)] w' (Gives (.bool (lighterM x y)) w')) := fun x y w' hx hy => bt_lighter x y (Nat.lt_of_lt_of_le hx (by decide)) (Nat.lt_of_lt_of_le hy (by decide)) w'
  have HTab := Lib.hid ht
  clear R hc hc1 h hm ht
  obtain ⟨A, hAe⟩ : ∃ A, (spanned (nats xs)).at_ = A := ⟨_, rfl⟩
  rw [hAe] at HS ⊢
  have HAe := Lib.hid hAe
  clear hAe
  have HR24 := Lib.hid (reducedM_lt HS.out)
  refine (callsIn_wide (n := 10)).1 ?_
  refine callsIn_of_wp_marks Tryd.func40 rfl trivial ?_ rfl
  simp only [Tryd.ntmps40, List.size_toArray, List.length_cons, List.length_nil, Nat.reduceAdd, Nat.reduceSub, Array.replicate_succ, Array.replicate_zero, List.push_toArray, List.append_toArray, List.nil_append, List.cons_append]
  gi_wp2
  refine ⟨trivial, callsIn_wide.2 ((H1.out _ (by repeat (first | with_reducible exact Below.refl _ _ | with_reducible refine below_al ?_ _ | with_reducible refine below_dN ?_ _ | with_reducible refine Below.drew ?_ | (with_reducible refine Below.setCell ?_ (by simp <;> omega) _) | (with_reducible refine below_via (by assumption) ?_)))).mono ?_)⟩
  rintro e w1 ⟨rfl, hb1⟩
  have hl0 : w.heap.size < (w.alloc (.cells #[.int .i64 (r : Int)] 3)).heap.size := by simp
  have hc0 : w1.heap[w.heap.size]? = some (.cells #[.int .i64 (r : Int)] 3 (0, 0)) := (hb1.block _ hl0).trans (heap_alloc_new w _)
  have hcl := (cell_of_row w1 w.heap.size 0 _ 3 (0, 0) hc0 : w1.cell? ⟨w.heap.size, 0, none⟩ = some (.int .i64 (r : Int)))
  gi_wp2
  have hbA : Below w.heap.size w (w1.alloc (.cells #[.int .i64 (r : Int)] 3)) := below_al (below_via hb1 (below_al (Below.refl _ _) _)) _
  have hsA : (w1.alloc (.cells #[.int .i64 (r : Int)] 3)).heap.size = w1.heap.size + 1 := World.size_alloc _ _
  refine ⟨trivial, callsIn_wide.2 ((HN.out _ hbA).mono ?_)⟩
  rintro e w2 ⟨rv, rfl, hS, hM, hb2⟩
  rw [hsA] at hS hb2 ⊢
  rw [HAe.out] at hS
  have hlw : w.heap.size < w1.heap.size := Nat.lt_of_lt_of_le hl0 hb1.size
  have hI0 : w2.heap[w.heap.size]? = some (.cells #[.int .i64 (r : Int)] 3 (0, 0)) := (hb2.block _ (by omega)).trans ((Below.heap_alloc _ _ _ hlw).trans hc0)
  have hI1 : w2.heap[w1.heap.size]? = some (.cells #[.int .i64 (r : Int)] 3 (0, 0)) := (hb2.block _ (by omega)).trans (heap_alloc_new w1 _)
  have hI2 : Below w.heap.size w w2 := hbA.trans (hb2.mono (by omega))
  have hl12 := hS.lt
  clear hb2 hbA hM hcl hc0 hb1
  gi_wp2
  refine bt_rangeFunc rfl (by omega) (gf := 65) (bd := #[.pointer (some ⟨w1.heap.size + 1, 0, none⟩)]) rfl trivial (enters_of (by kernel_rfl)) (members_stops A HS.out.1 HS.out (w1.heap.size + 1) rv w2 hS (10 - 1) (by omega)) (Below.refl _ _) (fun _ => rfl)
    (fun pre W => W.heap[w.heap.size]? = some (.cells #[.int .i64 (r : Int)] 3 (0, 0)) ∧ W.heap[w1.heap.size]? = some (.cells #[.int .i64 (bestL (reducedM A) r pre : Nat)] 3 (0, 0)) ∧ Below w.heap.size w W)
    (fun _ _ _ => False) ?hI ?hIx ⟨hI0, hI1, hI2⟩ (fun s W1 hs => tab_below HTab.out hs.2.2 hg)
    (fun x W a => a = { tmps := #[.slice p xs.length cap, .int .i64 n, .int .i64 (r : Int), undef, undef, .pointer (some ⟨w.heap.size, 0, none⟩), .int .i64 0, .int .i64 0, .int .i64 0, .pointer (some ⟨w1.heap.size, 0, none⟩), .int .i64 (memM (reducedM A) x : Nat), undef, .slice p xs.length cap, .int .i64 n, .int .i64 (r : Int), .int .i64 0, .int .i64 0, .bool false, undef, .int .i64 (r : Int), .slice p xs.length cap, .pointer (some ⟨w1.heap.size + 1, 0, none⟩), .pointer (some ⟨w1.heap.size + 1, 0, none⟩), .pointer (some ⟨w1.heap.size + 1, 0, none⟩), .func (.func 65) #[.pointer (some ⟨w1.heap.size + 1, 0, none⟩)] #[], .int .i64 (memM (reducedM A) x : Nat), undef, undef, undef, undef, undef, undef, undef, undef, undef], defers := [] })
    ?assign ?body ?ha ?done ?stop
  case hI =>
    rintro s A' B row ⟨h1, h2, h3⟩ hgr hr
    refine ⟨?_, ?_, h3.grown hgr h3.size (fun k e => by have := hr k e; omega)⟩
    · rw [hgr.block _ (Array.getElem?_eq_some_iff.1 h1).1 (fun e => by have := hr _ e.symm; omega)]; exact h1
    · rw [hgr.block _ (Array.getElem?_eq_some_iff.1 h2).1 (fun e => by have := hr _ e.symm; omega)]; exact h2
  case hIx => rintro c s A' B row hf; exact hf.elim
  case assign =>
    rintro l pre x W K ⟨h1, h2, h3⟩ hK
    gi_wp2
    exact hK _ _ rfl ⟨h1, h2, h3⟩ (SameFrom.refl _ _)
  case body =>
    rintro l pre x a2 W rfl ⟨h1, h2, h3⟩ hlen
    dsimp only
    have hlt1 : w.heap.size < W.heap.size := (Array.getElem?_eq_some_iff.1 h1).1
    have hlt2 : w1.heap.size < W.heap.size := (Array.getElem?_eq_some_iff.1 h2).1
    have hbl := bestL_lt HR24.out hr1 _ pre rfl
    have hml := memM_lt _ HR24.out x
    have hsn := Lib.hid (bestL_snoc (reducedM A) r pre x)
    generalize bestL (reducedM A) r pre = b at *
    generalize memM (reducedM A) x = m at *
    have hxl : r ^^^ m < R24 := (Nat.xor_lt_two_pow (n := 24) hr1 hml : _ < 2 ^ 24)
    have c1 := (cell_of_row W w.heap.size 0 _ 3 (0, 0) h1 : W.cell? ⟨w.heap.size, 0, none⟩ = some (.int .i64 (r : Int)))
    have HX := Lib.hid (fun b' w' => HA.out r m b' w' (Nat.lt_of_lt_of_le hr1 (by decide)) (Nat.lt_of_lt_of_le hml (by decide)))
    have HY := Lib.hid (fun w' => HL.out (r ^^^ m) b w' hxl hbl)
    have HI := Lib.hid (And.intro h1 (And.intro h2 h3))
    have hf2 : W.frozen? ⟨w1.heap.size, 0, none⟩ = false := by simp [World.frozen?, h2]
    have c2 := (cell_of_row W w1.heap.size 0 _ 3 (0, 0) h2 : W.cell? ⟨w1.heap.size, 0, none⟩ = some (.int .i64 (b : Int)))
    have HC2 := Lib.hid (And.intro c2 hf2)
    clear h1 h2 h3 hbl hml hxl c2 hf2
    gi_wp2
    have hl2 : W.heap.size < (W.alloc (.cells #[.int .i64 (r : Int), .int .i64 (m : Int)] 3)).heap.size := by simp
    refine ⟨trivial, (CallsIn.inRound l (callsIn_wide.2 (HX.out W.heap.size _ (cell_of_row _ _ 0 _ 3 (0, 0) (heap_alloc_new W _)) (cell_of_row _ _ 1 _ 3 (0, 0) (heap_alloc_new W _)) hl2))).mono ?_⟩
    rintro e W2 ⟨rfl, hb2⟩
    have hb2 : Below W.heap.size W W2 := below_via hb2 (below_al (Below.refl _ W) _)
    obtain ⟨hcw, hfw⟩ := bcell hb2
    have c2 := (hcw _ 0 hlt2).trans HC2.out.1
    have HB2 := Lib.hid hb2
    clear c1 hl2 hb2 hcw hfw
    gi_wp2
    refine ⟨trivial, (CallsIn.inRound l (callsIn_wide.2 (HY.out _))).mono ?_⟩
    rintro e W3 ⟨rfl, hb3⟩
    have hb3 := below_via hb3 HB2.out
    obtain ⟨hcw, hfw⟩ := bcell hb3
    have f2 := (hfw _ 0 hlt2).trans HC2.out.2
    have c3 := (hcw _ 0 hlt2).trans HC2.out.1
    have i1 := (hb3.block _ hlt1).trans HI.out.1
    have i2 := (hb3.block _ hlt2).trans HI.out.2.1
    have i3 := below_via hb3 HI.out.2.2
    have HJ := Lib.hid (And.intro i1 (And.intro i2 i3))
    have HB3 := Lib.hid hb3
    clear hb3 hcw hfw i1 i2 i3 HB2 c2 HI
    generalize lighterM (r ^^^ m) b = q at *
    cases q with
    | true =>
      gi_wp2
      refine ⟨sameFrom_set (sameFrom_below HB3.out) (by omega) _ _, ?_, ?_, ?_⟩
      · rw [Below.heap_setCell _ _ _ _ (by show w.heap.size ≠ w1.heap.size; omega)]
        exact HJ.out.1
      · rw [hsn.out]
        have h9 := HJ.out.2.1
        simp [World.setCell, Array.getElem?_modify, h9]
      · exact HJ.out.2.2.setCell (by show w.heap.size ≤ w1.heap.size; omega) _
    | false =>
      gi_wp2
      refine ⟨sameFrom_below HB3.out, HJ.out.1, ?_, HJ.out.2.2⟩
      rw [hsn.out]
      exact HJ.out.2.1
  case ha => rintro x W a l o hl h _; exact h
  case done =>
    rintro D xs' W rfl ⟨h1, h2, h3⟩ hD hK
    have c2 := (cell_of_row W w1.heap.size 0 _ 3 (0, 0) h2 : W.cell? ⟨w1.heap.size, 0, none⟩ = some (.int .i64 (bestL (reducedM A) r (List.range (2 ^ (reducedM A).length)) : Nat)))
    dsimp only
    gi_wp2
    refine ⟨by simp, .inl ⟨_, _, rfl, run_takeDeferred hK, ?_⟩⟩
    have h6 := h3.grown (grownBy_putObj' W D (.deferred none)) h3.size (fun k e => by cases e; omega)
    generalize W.putObj D (.deferred none) = W4 at *
    exact ⟨_, by simp [results, Tryd.results40, go_sem], rfl, h6⟩
  case stop => rintro D c pre W _ hf; exact hf.elim
def CosetM (xs : List Int) (n row : Int) : Nat × Int := if checkedWithM xs n row = 0 then (bestL (reducedM (spanned (nats xs)).at_) row.toNat (List.range (2 ^ (reducedM (spanned (nats xs)).at_).length)), 0) else (0, checkedWithM xs n row)
set_option maxHeartbeats 1000000 in
theorem bt_Coset (xs : List Int) (n row : Int) (p : Option Addr) (cap : Nat) (w : World) (h : Ints w p xs) (hm : xs.length ≤ 9223372036854775807) (ht : TabAt 1 Lib.deBruijn64tab w) (hg : 1 < w.heap.size) :
    Calls Tryd.prog 40 #[.slice p xs.length cap, .int .i64 n, .int .i64 row] w (Gives (.tuple #[.int .i64 ((CosetM xs n row).1 : Int), .int .i64 (CosetM xs n row).2]) w) := by
  unfold CosetM
  by_cases hc : checkedWithM xs n row = 0
  · rw [if_pos hc]
    obtain ⟨_, hr0, _, _⟩ := checkedWithM_ok hc
    obtain ⟨r, rfl⟩ : ∃ r : Nat, row = r := ⟨row.toNat, by omega⟩
    rw [Int.toNat_natCast]
    exact bt_Coset_ok xs n r p cap w h hm hc ht hg
  · rw [if_neg hc]
    have H1 : Hid (∀ w', Below w.heap.size w w' → Calls Tryd.prog 51 #[.slice p xs.length cap, .int .i64 n, .int .i64 row] w' (Gives (.int .i64 (checkedWithM xs n row)) w')) := fun w' hb => bt_checkedWith xs n row p cap w' (h.below hb) hm
    have hne : (checkedWithM xs n row != 0) = true := bne_iff_ne.2 hc
    generalize checkedWithM xs n row = q at *
    clear hc h hm ht
    go_enter Tryd.func40, Tryd.ntmps40
    go_wp2_with fail
    refine (H1.out _ (by repeat (first | with_reducible exact Below.refl _ _ | with_reducible refine below_al ?_ _ | with_reducible refine below_dN ?_ _ | with_reducible refine Below.drew ?_ | (with_reducible refine Below.setCell ?_ (by simp <;> omega) _) | (with_reducible refine below_via (by assumption) ?_)))).mono ?_
    rintro e w1 ⟨rfl, hb1⟩
    go_wp2_with fail
    go_ret2
    exact ⟨rfl, below_via hb1 (by repeat (first | with_reducible exact Below.refl _ _ | with_reducible refine below_al ?_ _ | with_reducible refine below_dN ?_ _ | with_reducible refine Below.drew ?_ | (with_reducible refine Below.setCell ?_ (by simp <;> omega) _) | (with_reducible refine below_via (by assumption) ?_)))⟩
end Go.Proofs.YtpnancidgobehaaDoor
