
/- How many members of a span have which weight. -/
import Derived.Test.YtpnancidgobehaaDoorVx
set_option linter.all false
set_option maxRecDepth 100000
namespace Go.Proofs.YtpnancidgobehaaDoor
open Go.RowKit Go.Shelf
attribute [local go_sem] Oper.semAt_some

/-- What the rows of a span are: sums of rows below 2 ^ m. -/
def RowBelow (A : List Sm) (m : Nat) : Prop := ∀ y ∈ A, y.row < 2 ^ m
theorem restM_row {A : List Sm} {m : Nat} (hA : RowBelow A m) : ∀ (n k : Nat) (x : Sm), x.row < 2 ^ m → (restM A n k x).row < 2 ^ m
  | 0, _, _, hx => hx
  | n + 1, k, x, hx => by
    unfold restM
    refine restM_row hA n (k + 1) _ ?_
    split
    · refine Nat.xor_lt_two_pow hx ?_
      unfold rowAt
      rw [List.getD_eq_getElem?_getD]
      cases hk : A[k]? with
      | none => exact Nat.two_pow_pos m
      | some y => exact hA y (List.mem_of_getElem? hk)
    · exact hx
theorem stepM_row {S : Sys} {i row m : Nat} (hA : RowBelow S.at_ m) (hr : row < 2 ^ m) : RowBelow (stepM S i row).at_ m := by
  have hx : (restM S.at_ 24 0 ⟨row, 2 ^ i⟩).row < 2 ^ m := restM_row hA _ _ _ hr
  unfold stepM
  split
  · intro y hy
    rcases List.mem_or_eq_of_mem_set hy with hy | rfl
    · obtain ⟨z, hz, rfl⟩ := List.mem_map.1 hy
      unfold bring1
      split
      · exact Nat.xor_lt_two_pow (hA z hz) hx
      · exact hA z hz
    · exact hx
  · exact hA
theorem spanM_row {m : Nat} : ∀ (l : List Nat) (i : Nat) (S : Sys), RowBelow S.at_ m → (∀ x ∈ l, x < 2 ^ m) → RowBelow (spanM l i S).at_ m
  | [], _, _, h, _ => h
  | r :: l, i, S, h, hl => spanM_row l (i + 1) (stepM S i r) (stepM_row h (hl r (by simp))) (fun x hx => hl x (by simp [hx]))
theorem spanned_row {l : List Nat} {m : Nat} (hl : ∀ x ∈ l, x < 2 ^ m) : RowBelow (spanned l).at_ m :=
  spanM_row l 0 _ (fun y hy => by rw [List.eq_of_mem_replicate hy]; exact Nat.two_pow_pos _) hl
theorem reducedM_lt2 {A : List Sm} {m : Nat} (hA : RowBelow A m) : ∀ x ∈ reducedM A, x < 2 ^ m := by
  intro x hx
  simp only [reducedM, List.mem_reverse, List.mem_map] at hx
  obtain ⟨y, hy, rfl⟩ := hx
  exact hA y (List.mem_filter.1 hy).1
theorem memM_lt2 {R : List Nat} {m : Nat} (hR : ∀ x ∈ R, x < 2 ^ m) (i : Nat) : memM R i < 2 ^ m := by
  induction i with
  | zero => exact Nat.two_pow_pos m
  | succ i ih =>
    unfold memM
    refine Nat.xor_lt_two_pow ih ?_
    rw [List.getD_eq_getElem?_getD]
    cases hg : R[Lib.ctz 64 (i + 1)]? with
    | none => exact Nat.two_pow_pos m
    | some x => exact hR x (List.mem_of_getElem? hg)
theorem popF_bound (k n x : Nat) (h : x < 2 ^ n) : popF k x ≤ n := by
  induction n generalizing k x with
  | zero =>
    have : x = 0 := by simpa using h
    rw [this, popF_zero]
    exact Nat.le_refl _
  | succ n ih =>
    cases k with
    | zero => exact Nat.zero_le _
    | succ k =>
      rw [popF_succ]
      have h1 : x / 2 < 2 ^ n := by rw [Nat.pow_succ] at h; omega
      have := ih k (x / 2) h1
      omega
/-- How often each weight was met so far. -/
def countL (R : List Nat) (n : Nat) (pre : List Nat) : List Nat := pre.foldl (fun c i => c.set (weightM (memM R i)) (c.getD (weightM (memM R i)) 0 + 1)) (List.replicate (n + 1) 0)
theorem countL_snoc (R : List Nat) (n : Nat) (pre : List Nat) (i : Nat) : countL R n (pre ++ [i]) = (countL R n pre).set (weightM (memM R i)) ((countL R n pre).getD (weightM (memM R i)) 0 + 1) := by
  unfold countL
  rw [List.foldl_append, List.foldl_cons, List.foldl_nil]
theorem countL_len (R : List Nat) (n m : Nat) (pre : List Nat) (hm : pre.length = m) : (countL R n pre).length = n + 1 := by
  induction m generalizing pre with
  | zero => rw [List.length_eq_zero_iff.1 hm]; exact List.length_replicate
  | succ m ih =>
    obtain ⟨q, i, rfl⟩ : ∃ q i, pre = q ++ [i] := ⟨pre.dropLast, pre.getLast (by intro h; simp [h] at hm), (List.dropLast_concat_getLast _).symm⟩
    rw [countL_snoc, List.length_set]
    exact ih q (by simpa using hm)
theorem countL_le (R : List Nat) (n m : Nat) (pre : List Nat) (hm : pre.length = m) : ∀ c ∈ countL R n pre, c ≤ m := by
  induction m generalizing pre with
  | zero =>
    rw [List.length_eq_zero_iff.1 hm]
    intro c hc
    rw [List.eq_of_mem_replicate hc]
    exact Nat.le_refl _
  | succ m ih =>
    obtain ⟨q, i, rfl⟩ : ∃ q i, pre = q ++ [i] := ⟨pre.dropLast, pre.getLast (by intro h; simp [h] at hm), (List.dropLast_concat_getLast _).symm⟩
    have ih' := ih q (by simpa using hm)
    rw [countL_snoc]
    intro c hc
    rcases List.mem_or_eq_of_mem_set hc with hc | rfl
    · have := ih' c hc; omega
    · rw [List.getD_eq_getElem?_getD]
      cases hg : (countL R n q)[weightM (memM R i)]? with
      | none => simp
      | some x => have := ih' x (List.mem_of_getElem? hg); simpa using this
set_option maxHeartbeats 4000000 in
theorem bt_Weights_ok (xs : List Int) (n : Nat) (p : Option Addr) (cap : Nat) (w : World) (h : Ints w p xs) (hm : xs.length ≤ 9223372036854775807) (hc : checkM xs n = 0) (ht : TabAt 1 Lib.deBruijn64tab w) (hg : 1 < w.heap.size) :
    Calls Tryd.prog 38 #[.slice p xs.length cap, .int .i64 (n : Int)] w (ListE (countL (reducedM (spanned (nats xs)).at_) n (List.range (2 ^ (reducedM (spanned (nats xs)).at_).length))) 0 w) := by
  have H1 : Hid (∀ w', Below w.heap.size w w' → Calls Tryd.prog 44 #[.slice p xs.length cap, .int .i64 (n : Int)] w' (Gives (.int .i64 (checkM xs n)) w')) := fun w' hb => bt_Check xs n p cap w' (h.below hb) hm
  have R := right_of hc
  rw [hc] at H1
  have hn16 := R.h16
  rw [Int.toNat_natCast] at hn16
  have HN : Hid (∀ w', Below w.heap.size w w' → Calls Tryd.prog 46 #[.slice p xs.length cap] w' (Spans (nats xs) w')) := fun w' hb => by
    have := bt_spanned (nats xs) R.r24 (by have := R.len; omega) p cap w' (by have := h.below hb; rwa [R.hx] at this)
    rwa [nats_len] at this
  have HS : Hid (Small (spanned (nats xs)).at_) := Lib.hid (spanned_ok R.r24 (by have := R.len; omega)).1
  have HB : Hid (∀ x ∈ reducedM (spanned (nats xs)).at_, x < 2 ^ n) := Lib.hid (reducedM_lt2 (spanned_row (by have := R.lt; rwa [Int.toNat_natCast] at this)))
  have HL : Hid (∀ (x : Nat) w', x < R24 → Calls Tryd.prog 61 #[.int .i64 (x : Int)] w' (Gives (.int .i64 ((weightM x : Nat) : Int)) w')) := fun x w' hx => bt_weight x (Nat.lt_of_lt_of_le hx (by decide)) w'
  have HTab := Lib.hid ht
  clear R hc h hm ht
  obtain ⟨A, hAe⟩ : ∃ A, (spanned (nats xs)).at_ = A := ⟨_, rfl⟩
  rw [hAe] at HS HB ⊢
  have HAe := Lib.hid hAe
  clear hAe
  have HR24 := Lib.hid (reducedM_lt HS.out)
  obtain ⟨i0, hi, hz0, hz1, hz2⟩ := info_parts info_int
  have HMK : Hid (∀ w' : World, ∃ w1, _ ∧ _ ∧ _) := fun w' => run_make_full (P := Tryd.prog) w' w'.heap.size 25 3 i0 (.int .i64 0) 1 und_ints hi hz0 hz1 .i64 .i64 (n + 1) (by rw [hz2]; omega) (by unfold maxLen; omega) (Nat.le_refl _)
  clear hi hz0 hz1 hz2
  refine (callsIn_wide (n := 10)).1 ?_
  refine callsIn_of_wp_marks Tryd.func38 rfl trivial ?_ rfl
  simp only [Tryd.ntmps38, List.size_toArray, List.length_cons, List.length_nil, Nat.reduceAdd, Nat.reduceSub, Array.replicate_succ, Array.replicate_zero, List.push_toArray, List.append_toArray, List.nil_append, List.cons_append]
  gi_wp2
  refine ⟨trivial, callsIn_wide.2 ((H1.out _ (by repeat (first | with_reducible exact Below.refl _ _ | with_reducible refine below_al ?_ _ | with_reducible refine below_dN ?_ _ | with_reducible refine Below.drew ?_ | (with_reducible refine Below.setCell ?_ (by simp <;> omega) _) | (with_reducible refine below_via (by assumption) ?_)))).mono ?_)⟩
  rintro e w1 ⟨rfl, hb1⟩
  obtain ⟨w2, hmk, hown, hgr⟩ := HMK.out w1
  simp only [Int.natCast_add, Int.natCast_one] at hmk
  have hbm : Below w.heap.size w w2 := (below_via hb1 (Below.refl _ _)).grown hgr hb1.size (by simp)
  have hR : Rows_ w2 w1.heap.size (List.replicate (n + 1) 0) := by
    rcases hown.2 with ⟨h', _⟩ | ⟨g, cap', cur, h1, h2, h3, h4, h5, h6, h7⟩
    · simp at h'
    · simp only [Value.slice.injEq, Option.some.injEq, Addr.mk.injEq, and_true, true_and] at h1
      obtain ⟨rfl, rfl⟩ := h1
      have e1 : cur.toList = vals (List.replicate (n + 1) 0) := by
        rw [List.take_of_length_le (by rw [Array.length_toList]; omega), show (Value.int IntKind.i64 0).cells = #[.int .i64 0] from rfl] at h7
        rw [h7]
        refine List.ext_getElem? fun i => ?_
        unfold madeCells vals casts
        by_cases hi : i < n + 1
        · simp [hi, Nat.mod_one, iv, List.getElem?_replicate]
        · simp [hi, List.getElem?_replicate]
      unfold Rows_
      rw [h3, ← e1]
  clear hown HMK
  have hs12 : w1.heap.size < w2.heap.size := hR.lt
  gi_wp2
  have hbA : Below w.heap.size w (w2.alloc (.cells #[.slice (some ⟨w1.heap.size, 0, none⟩) (n + 1) (n + 1)] 25)) := below_al hbm _
  have hsA : (w2.alloc (.cells #[.slice (some ⟨w1.heap.size, 0, none⟩) (n + 1) (n + 1)] 25)).heap.size = w2.heap.size + 1 := World.size_alloc _ _
  refine ⟨trivial, callsIn_wide.2 ((HN.out _ hbA).mono ?_)⟩
  rintro e w3 ⟨rv, rfl, hS, hM, hb2⟩
  rw [hsA] at hS hb2 ⊢
  rw [HAe.out] at hS
  have hlw : w.heap.size ≤ w1.heap.size := hb1.size
  have hI0 : w3.heap[w2.heap.size]? = some (.cells #[.slice (some ⟨w1.heap.size, 0, none⟩) (n + 1) (n + 1)] 25 (0, 0)) := (hb2.block _ (by omega)).trans (heap_alloc_new w2 _)
  have hI1 : Rows_ w3 w1.heap.size (List.replicate (n + 1) 0) := (hb2.block _ (by omega)).trans ((Below.heap_alloc _ _ _ hs12).trans hR)
  have hI2 : Below w.heap.size w w3 := hbA.trans (hb2.mono (by omega))
  have hl12 := hS.lt
  clear hb2 hbA hM hR hb1 hgr hmk hbm
  gi_wp2
  have hN24 : 2 ^ (reducedM A).length ≤ 2 ^ 24 := Nat.pow_le_pow_right (by omega) (reducedM_len HS.out)
  refine bt_rangeFunc rfl (by omega) (gf := 65) (bd := #[.pointer (some ⟨w2.heap.size + 1, 0, none⟩)]) rfl trivial (enters_of (by kernel_rfl)) (members_stops A HS.out.1 HS.out (w2.heap.size + 1) rv w3 hS (10 - 1) (by omega)) (Below.refl _ _) (fun _ => rfl)
    (fun pre W => W.heap[w2.heap.size]? = some (.cells #[.slice (some ⟨w1.heap.size, 0, none⟩) (n + 1) (n + 1)] 25 (0, 0)) ∧ Rows_ W w1.heap.size (countL (reducedM A) n pre) ∧ Below w.heap.size w W)
    (fun _ _ _ => False) ?hI ?hIx ⟨hI0, hI1, hI2⟩ (fun s W1 hs => tab_below HTab.out hs.2.2 hg)
    (fun x W a => a = { tmps := #[.slice p xs.length cap, .int .i64 (n : Int), undef, undef, .slice none 0 0, .int .i64 0, .int .i64 0, .pointer (some ⟨w2.heap.size, 0, none⟩), .int .i64 (memM (reducedM A) x : Nat), .slice p xs.length cap, .int .i64 (n : Int), .int .i64 0, .int .i64 0, .bool false, undef, .int .i64 (n : Int), .int .i64 ((n : Int) + 1), .slice (some ⟨w1.heap.size, 0, none⟩) (n + 1) (n + 1), .slice p xs.length cap, .pointer (some ⟨w2.heap.size + 1, 0, none⟩), .pointer (some ⟨w2.heap.size + 1, 0, none⟩), .pointer (some ⟨w2.heap.size + 1, 0, none⟩), .func (.func 65) #[.pointer (some ⟨w2.heap.size + 1, 0, none⟩)] #[], .int .i64 (memM (reducedM A) x : Nat), undef, undef, undef, undef, undef, undef, undef, undef], defers := [] })
    ?assign ?body ?ha ?done ?stop
  case hI =>
    rintro s A' B row ⟨h1, h2, h3⟩ hgr hr
    refine ⟨?_, ?_, h3.grown hgr h3.size (fun k e => by have := hr k e; omega)⟩
    · rw [hgr.block _ (Array.getElem?_eq_some_iff.1 h1).1 (fun e => by have := hr _ e.symm; omega)]; exact h1
    · unfold Rows_; rw [hgr.block _ h2.lt (fun e => by have := hr _ e.symm; omega)]; exact h2
  case hIx => rintro c s A' B row hf; exact hf.elim
  case assign =>
    rintro l pre x W K ⟨h1, h2, h3⟩ hK
    gi_wp2
    exact hK _ _ rfl ⟨h1, h2, h3⟩ (SameFrom.refl _ _)
  case body =>
    rintro l pre x a2 W rfl ⟨h1, h2, h3⟩ hlen
    (try dsimp only)
    have hlt1 := h2.lt
    have hlt2 : w2.heap.size < W.heap.size := (Array.getElem?_eq_some_iff.1 h1).1
    have hml := memM_lt _ HR24.out x
    have hwt : weightM (memM (reducedM A) x) ≤ n := popF_bound 64 n _ (memM_lt2 HB.out x)
    have hcl := countL_len (reducedM A) n _ pre rfl
    obtain ⟨c, hc⟩ : ∃ c, (countL (reducedM A) n pre)[weightM (memM (reducedM A) x)]? = some c := ⟨_, List.getElem?_eq_getElem (by omega)⟩
    have hcm := countL_le (reducedM A) n _ pre rfl c (List.mem_of_getElem? hc)
    have hcb : c < 16777216 := by omega
    have hsn := Lib.hid (countL_snoc (reducedM A) n pre x)
    rw [List.getD_eq_getElem?_getD, hc, Option.getD_some] at hsn
    have HY := Lib.hid (fun w' => HL.out (memM (reducedM A) x) w' hml)
    generalize memM (reducedM A) x = m at *
    generalize weightM m = k at *
    have hkn : (k : Int) < (n : Int) + 1 := by omega
    have c1 := (cell_of_row W w2.heap.size 0 _ 25 (0, 0) h1 : W.cell? ⟨w2.heap.size, 0, none⟩ = some (.slice (some ⟨w1.heap.size, 0, none⟩) (n + 1) (n + 1)))
    have c2 := h2.cell hc
    have f2 := h2.free k
    have HI := Lib.hid (And.intro h1 (And.intro h2 h3))
    clear h1 h2 h3 hml hcm hcl hlen hc
    gi_wp2
    gi_region_with ((refine ⟨trivial, ?_⟩); (gi_at_call 61); (refine (CallsIn.inRound l (callsIn_wide.2 (HY.out _))).mono ?_); (rintro e W2 ⟨rfl, hb2⟩); (try replace hb2 := below_undrew hb2); obtain ⟨hcw, hfw⟩ := bcell hb2; have c1' := (hcw _ 0 hlt2).trans c1; have c2' := (hcw _ k hlt1).trans c2; have f2' := (hfw _ k hlt1).trans f2; clear hcw hfw)
    all_goals
      have hb2 : Below W.heap.size W W2 := ⟨hb2.os, hb2.tape, hb2.output, hb2.size, hb2.block⟩
      clear c1' c2' f2'
      gi_wp2
      refine ⟨sameFrom_set (sameFrom_below hb2) (by omega) _ _, ?_, ?_, ?_⟩
      · rw [Below.heap_setCell _ _ _ _ (by show w2.heap.size ≠ w1.heap.size; omega)]
        exact (hb2.block _ hlt2).trans HI.out.1
      · rw [hsn.out, show IntKind.i64.wrap ((c : Int) + 1) = ((c + 1 : Nat) : Int) by rw [IntKind.wrap_i64]; omega]
        exact (HI.out.2.1.call hb2).set_ k (c + 1)
      · exact (below_via hb2 HI.out.2.2).setCell (by show w.heap.size ≤ w1.heap.size; omega) _
  case ha => rintro x W a l o hl h _; exact h
  case done =>
    rintro D xs' W rfl ⟨h1, h2, h3⟩ hD hK
    have c1 := (cell_of_row W w2.heap.size 0 _ 25 (0, 0) h1 : W.cell? ⟨w2.heap.size, 0, none⟩ = some (.slice (some ⟨w1.heap.size, 0, none⟩) (n + 1) (n + 1)))
    (try dsimp only)
    gi_wp2
    refine ⟨by simp, .inl ⟨_, _, rfl, run_takeDeferred hK, ?_⟩⟩
    have h6 := h3.grown (grownBy_putObj' W D (.deferred none)) h3.size (fun k e => by cases e; omega)
    have h7 : Rows_ (W.putObj D (.deferred none)) w1.heap.size (countL (reducedM A) n (List.range (2 ^ (reducedM A).length))) := by
      unfold Rows_; rw [World.putObj_heap_other (by omega)]; exact h2
    have h8 := countL_len (reducedM A) n _ (List.range (2 ^ (reducedM A).length)) rfl
    generalize W.putObj D (.deferred none) = W4 at *
    generalize countL (reducedM A) n (List.range (2 ^ (reducedM A).length)) = C at *
    refine ⟨.tuple #[.slice (some ⟨w1.heap.size, 0, none⟩) (n + 1) (n + 1), .int .i64 0], by simp [results, Tryd.results38, go_sem], _, rfl, h6, ?_⟩
    refine ⟨by simp [casts], .inr ⟨w1.heap.size, n + 1, (vals C).toArray, by rw [casts_len, h8], hlw, h7, by rw [casts_len, h8]; exact Nat.le_refl _, by unfold maxLen; omega, by simp [vals_len, h8], ?_⟩⟩
    rw [List.take_of_length_le (by simp [vals_len, casts_len])]
    rfl
  case stop => rintro D c pre W _ hf; exact hf.elim
def WeightsM (xs : List Int) (n : Int) : List Nat := if checkM xs n = 0 then countL (reducedM (spanned (nats xs)).at_) n.toNat (List.range (2 ^ (reducedM (spanned (nats xs)).at_).length)) else []
set_option maxHeartbeats 1000000 in
theorem bt_Weights (xs : List Int) (n : Int) (p : Option Addr) (cap : Nat) (w : World) (h : Ints w p xs) (hm : xs.length ≤ 9223372036854775807) (ht : TabAt 1 Lib.deBruijn64tab w) (hg : 1 < w.heap.size) :
    Calls Tryd.prog 38 #[.slice p xs.length cap, .int .i64 n] w (ListE (WeightsM xs n) (checkM xs n) w) := by
  unfold WeightsM
  by_cases hc : checkM xs n = 0
  · rw [if_pos hc]
    obtain ⟨m, rfl⟩ : ∃ m : Nat, n = m := ⟨n.toNat, by have := (right_of hc).hn; omega⟩
    have := bt_Weights_ok xs m p cap w h hm hc ht hg
    rw [hc, Int.toNat_natCast]
    exact this
  · rw [if_neg hc]
    have H1 : Hid (∀ w', Below w.heap.size w w' → Calls Tryd.prog 44 #[.slice p xs.length cap, .int .i64 n] w' (Gives (.int .i64 (checkM xs n)) w')) := fun w' hb => bt_Check xs n p cap w' (h.below hb) hm
    have hne : (checkM xs n != 0) = true := bne_iff_ne.2 hc
    generalize checkM xs n = q at *
    clear hc h hm ht
    go_enter Tryd.func38, Tryd.ntmps38
    go_wp2_with fail
    refine (H1.out _ (by repeat (first | with_reducible exact Below.refl _ _ | with_reducible refine below_al ?_ _ | with_reducible refine below_dN ?_ _ | with_reducible refine Below.drew ?_ | (with_reducible refine Below.setCell ?_ (by simp <;> omega) _) | (with_reducible refine below_via (by assumption) ?_)))).mono ?_
    rintro e w1 ⟨rfl, hb1⟩
    go_wp2_with fail
    go_ret2
    exact ListE.error _ (below_via hb1 (by repeat (first | with_reducible exact Below.refl _ _ | with_reducible refine below_al ?_ _ | with_reducible refine below_dN ?_ _ | with_reducible refine Below.drew ?_ | (with_reducible refine Below.setCell ?_ (by simp <;> omega) _) | (with_reducible refine below_via (by assumption) ?_))))
end Go.Proofs.YtpnancidgobehaaDoor
