
/- The law RingPowers, for all numbers, integers and lists. -/
import Derived.Test.YtcdmcndjbajhlaaGreatDoorJy
import Derived.Test.YtcdmcndjbajhlaaGreatDoorJu
import Derived.Laws.AppendOwnNone
set_option linter.all false
set_option maxRecDepth 100000
namespace Go.Proofs.YtcdmcndjbajhlaaGreatDoor
open Go.RowKit Go.Shelf

set_option maxHeartbeats 2000000 in
theorem r_checksE (p : Option Addr) (cap : Nat) (w : World) : Calls Tryz.prog 68 #[.slice p 0 cap] w (Gives (.int .i64 0) w) := by
  go_enter Tryz.func68, Tryz.ntmps68
  go_wp2
  go_loopw [3] (fun i wr => i = .int .i64 0 ∧ wr = w) (fun i _ => 0)
  case atStart => exact ⟨rfl, rfl⟩
  case round =>
    obtain ⟨rfl, rfl⟩ := hrel
    go_wp2_with fail
    go_ret
    exact ⟨rfl, Below.refl _ _⟩
set_option maxHeartbeats 2000000 in
theorem r_SumE (p : Option Addr) (cap : Nat) (w : World) : Calls Tryz.prog 25 #[.slice p 0 cap] w (Gives (.tuple #[nul.v, .int .i64 0]) w) := by
  have HC : Hid (∀ w, Calls Tryz.prog 68 #[.slice p 0 cap] w (Gives (.int .i64 0) w)) := fun w => r_checksE p cap w
  go_enter Tryz.func25, Tryz.ntmps25
  go_wp2_with fail
  refine (HC.out _).mono ?_
  rintro e w1 ⟨rfl, hb⟩
  have hw2 : Below w.heap.size w w1 := below_via hb (by repeat (first | with_reducible exact Below.refl _ _ | with_reducible refine below_al ?_ _ | with_reducible refine below_dN ?_ _ | with_reducible refine Below.drew ?_ | (with_reducible refine Below.setCell ?_ (by simp <;> omega) _) | (with_reducible refine below_via (by assumption) ?_)))
  have hz1 : Box w1 w.heap.size 23 nul := (box_new w 0 0 0 0 0 _).below hb (by simp)
  have HI : Hid (InSum w w1.heap.size nul (w1.alloc (.cells #[.int .i64 0, .int .i64 0, .int .i64 0, .int .i64 0, .int .i64 0] 23))) := ⟨below_al hw2 _, box_al hz1 _, box_new w1 0 0 0 0 0 _, hz1.lt⟩
  clear hb hw2 hz1
  go_wp2_with fail
  generalize w1.heap.size = bs at HI ⊢
  go_loopw [6, 7] (fun e i wr => i = .int .i64 0 ∧ e = .int .i64 0 ∧ Hid (InSum w bs nul wr)) (fun _ i _ => 0)
  case atStart => exact ⟨rfl, rfl, HI.out⟩
  case round =>
    obtain ⟨rfl, rfl, HI⟩ := hrel
    obtain ⟨z0, z1, z2, z3, z4⟩ := HI.out.2.1.cell
    obtain ⟨g0, g1, g2, g3, g4⟩ := HI.out.2.1.free
    obtain ⟨s0, s1, s2, s3, s4⟩ := HI.out.2.2.1.cell
    have hltz := HI.out.2.1.lt
    have hlts := HI.out.2.2.1.lt
    have hw := HI.out.1
    dsimp only at z0 z1 z2 z3 z4 s0 s1 s2 s3 s4
    go_wp2_with fail
    exact bodyPost_ret (v := .tuple #[nul.v, .int .i64 0]) (by simp [results, Tryz.results25, go_sem, z0, z1, z2, z3, z4]) rfl ⟨rfl, by first | exact hw | exact ((((hw.setCell (Nat.le_refl _) _).setCell (Nat.le_refl _) _).setCell (Nat.le_refl _) _).setCell (Nat.le_refl _) _).setCell (Nat.le_refl _) _⟩
/-- Two numbers of rows are compared. -/
theorem neq_row {o : Oper} {a : Act} {s t : Operand} {x y : Nm} {b : Bool} {W : World} (ho : o.op = .binOp .neq 23 s t 23) (hs : a.eval s = x.v) (ht : a.eval t = y.v) (hb : (!eq5 x y) = b) : (execOp a.eval o).run Tryz.prog W = .ok (.value (.bool b)) W := by
  obtain ⟨dst, op, ty, pos, af, gd⟩ := o
  dsimp only at ho
  subst ho
  subst hb
  generalize a.eval = e at *
  simp [go_sem, hs, ht]
  unfold eq5
  by_cases h0 : x.A = y.A <;> by_cases h1 : x.B = y.B <;> by_cases h2 : x.C = y.C <;> by_cases h3 : x.D = y.D <;> by_cases h4 : x.K = y.K <;> simp [h0, h1, h2, h3, h4]
theorem rootP_two (k : Int) : ∃ (r : Nm) (q : Int), rootP k = .tuple #[r.v, .int .i64 q] := by
  unfold rootP; split
  · exact ⟨⟨1, 0, 0, 0, k⟩, 0, rfl⟩
  · exact ⟨nul, 3, rfl⟩
theorem powV_two (x : Nm) (n : Int) : ∃ (r : Nm) (q : Int), powV x n = .tuple #[r.v, .int .i64 q] := by
  unfold powV; split
  · split
    · exact ⟨_, _, rfl⟩
    · exact ⟨nul, 3, rfl⟩
  · exact ⟨nul, _, rfl⟩
theorem sumV_two (xs : List Nm) : ∃ (r : Nm) (q : Int), sumV xs = .tuple #[r.v, .int .i64 q] := by
  unfold sumV; split
  · exact ⟨_, _, rfl⟩
  · exact ⟨nul, _, rfl⟩
/-- Numbers are put behind nothing: they lie in a row of their own. -/
theorem wpList_append_nums {w : World} {ops : Array Oper} {rest : List Oper} {o : Oper} {a : Act} {Q : Exit → Act → World → Prop} (hgd : o.guard = none) (s y : Operand)
    (ho : o.op = .call { callee := .builtin .append, args := #[s, y], argTypes := #[25, 25] }) (hB : Nat) (hs : a.eval s = .slice (some ⟨hB, 0, none⟩) 0 0) (hown : w.heap[hB]? = some (.cells #[] 23 (0, 0)))
    (p : Option Addr) (m c : Nat) (xs : List Nm) (hx : a.eval y = .slice p m c) (hm : xs.length = m) (hm2 : m ≤ 100) (hp : p = none → c = 0)
    (hsrc : xs = [] ∨ ∃ b off, p = some ⟨b, off, none⟩ ∧ Row w b off xs)
    (h : ∀ g cap' w', Row w' g 0 xs → w.grownBy w' (some hB) → wpList Tryz.prog ops Q rest (a.put o.dst (.slice (some ⟨g, 0, none⟩) m cap')) w') : wpList Tryz.prog ops Q (o :: rest) a w := by
  obtain ⟨i0, hi, hz0, hz1, hz2⟩ := info_parts info_num
  have hlt := (Array.getElem?_eq_some_iff.1 hown).1
  have ho0 : w.ownsRow hB 23 5 (.slice (some ⟨hB, 0, none⟩) 0 0) 0 [] := ⟨rfl, .inr ⟨hB, 0, #[], rfl, Nat.le_refl _, hown, Nat.le_refl _, Nat.zero_le _, rfl, rfl⟩⟩
  cases p with
  | none =>
    have hx0 : xs = [] := by
      rcases hsrc with h | ⟨b, off, h, _⟩
      · exact h
      · cases h
    subst hx0
    have hc := hp rfl
    subst hc
    simp at hm
    subst hm
    refine wpList_append_own_none hgd s y 25 ho hB 23 i0 5 und_nums hi (.slice (some ⟨hB, 0, none⟩) 0 0) 0 [] hs ho0 hx ?_
    exact h hB 0 w ⟨hlt, fun i x hx => by simp at hx⟩ ⟨rfl, rfl, rfl, Nat.le_refl _, fun k _ _ => rfl⟩
  | some ad =>
    refine wpList_append_own w hgd s y 25 ho hB 23 i0 nul.v 5 40 und_nums hi hz0 hz1 hz2 rfl (by decide) (.slice (some ⟨hB, 0, none⟩) 0 0) 0 [] hs ho0 ad m c (cellsL xs) hx (by rw [cellsL_len, hm]) ?_ (cellsL_one xs) (by unfold maxLen; omega) (by omega) (Nat.le_of_lt hlt) ?_
    · intro j u hu
      rcases hsrc with h | ⟨b, off, h, hr⟩
      · subst h; simp [cellsL] at hu
      · cases h
        rw [add_at]
        exact Row.cells xs off hr j u hu
    · intro v' w' hown' hgrow hnil
      obtain ⟨hl, hh | ⟨g, cap', cur, h1, h2, h3, h4, h5, h6, h7⟩⟩ := hown'
      · have := hnil.1 hh.1
        cases this.1
      · subst h1
        rw [Nat.zero_add] at h7 ⊢
        refine h g cap' w' (row_of h3 ?_) hgrow
        rw [hm]
        simpa using h7

theorem empty_new (w : World) (o : Obj) (T : Nat) {n : Nat} (h : n = (w.alloc o).heap.size) : ((w.alloc o).alloc (.cells #[] T)).heap[n]? = some (.cells #[] T (0, 0)) := by
  subst h; exact heap_alloc_new _ _
theorem below_app {w w' : World} {T n : Nat} (hg : (w.alloc (.cells #[] T)).grownBy w' (some n)) (hn : n = w.heap.size := by simp) : Below w.heap.size w w' :=
  ((Below.refl w.heap.size w).alloc (Nat.le_refl _) _).grown hg (by simp) (fun k e => by cases e; omega)

set_option maxHeartbeats 16000000 in
theorem RingPowers_row (x : Nm) (n k : Int) (hn0 : -9223372036854775808 ≤ n) (hn1 : n ≤ 9223372036854775807) (xs : List Nm) (b off cap : Nat) (hn : xs.length ≤ 100) (w : World) (hb : Row w b off xs) (hv : Vars w) :
    Calls Tryz.prog 8 #[x.v, .int .i64 n, .int .i64 k, .slice (some ⟨b, off, none⟩) xs.length cap] w (Gives (.bool true) w) := by
  have HA : Hid (∀ w', Below w.heap.size w w' → Calls Tryz.prog 9 #[] w' (Gives (.bool true) w')) := fun w' hb => awake_below hv hb
  have G0 : Hid (Got w [(w.heap.size, x)] (w.alloc (.cells #[.int .i64 x.A, .int .i64 x.B, .int .i64 x.C, .int .i64 x.D, .int .i64 x.K] 23))) := (Got.none w).box x
  obtain ⟨r1, q1, h1⟩ := rootP_two k
  obtain ⟨r2, q2, h2⟩ := powV_two x n
  obtain ⟨r3, q3, h3⟩ := sumV_two xs
  have H1 : Hid (∀ w, Calls Tryz.prog 23 #[.int .i64 k] w (Gives (.tuple #[r1.v, .int .i64 q1]) w)) := fun w => h1 ▸ r_Root k w
  have H2 : Hid (∀ w, Calls Tryz.prog 24 #[x.v, .int .i64 n] w (Gives (.tuple #[r2.v, .int .i64 q2]) w)) := fun w => h2 ▸ r_Power x n w
  have H4 : Hid (∀ w, Calls Tryz.prog 26 #[.int .i64 k] w (Gives (.tuple #[r1.v, .int .i64 q1]) w)) := fun w => h1 ▸ Root_any k w
  have H5 : Hid (∀ w, Calls Tryz.prog 27 #[x.v, .int .i64 n] w (Gives (.tuple #[r2.v, .int .i64 q2]) w)) := fun w => h2 ▸ Power_any x n w
  have HO1 : Hid (∀ w, Calls Tryz.prog 29 #[.int .i64 n] w (Gives (pw (n % 8).toNat).v w)) := fun w => Omega_any n w
  have HO2 : Hid (∀ w, Calls Tryz.prog 30 #[.int .i64 n] w (Gives (pw (n % 8).toNat).v w)) := fun w => r_OmegaZ n w hn0 hn1

  have HRW : Hid (∀ w', Below w.heap.size w w' → Row w' b off xs) := fun w' hb' => hb.below hb'
  have hblt := hb.1
  have H3 : Hid (∀ w', Row w' b off xs → Calls Tryz.prog 25 #[.slice (some ⟨b, off, none⟩) xs.length cap] w' (Gives (.tuple #[r3.v, .int .i64 q3]) w')) := fun w' h => h3 ▸ r_SumL xs b off cap w' h hn
  have H6 : Hid (∀ w' (g cap : Nat), Row w' g 0 xs → Calls Tryz.prog 28 #[.slice (some ⟨g, 0, none⟩) xs.length cap] w' (Gives (.tuple #[r3.v, .int .i64 q3]) w')) := fun w' g cap h => h3 ▸ Sum_any xs g 0 cap w' h hn
  have hnl : ¬ (100 : Int) < xs.length := by omega
  clear hb

  clear hv h1 h2 h3
  generalize pw (n % 8).toNat = om at *
  go_enter Tryz.func8, Tryz.ntmps8
  go_wp2_with fail
  refine (H1.out _).mono ?_
  rintro e u1 ⟨rfl, hb⟩
  have g := G0.out.call hb
  obtain ⟨x0, x1, x2, x3, x4⟩ := (g.2 _ (.head _)).cell
  have hlt := (g.2 _ (.head _)).lt
  dsimp only at x0 x1 x2 x3 x4 hlt
  have G1 := Lib.hid (g.box r1)
  clear g hb G0
  go_wp2_with fail
  clear x0 x1 x2 x3 x4 hlt
  refine (H2.out _).mono ?_
  rintro e u2 ⟨rfl, hb⟩
  have G2 := Lib.hid ((G1.out.call hb).box r2)
  clear hb G1
  go_wp2_with fail
  refine (H3.out _ (HRW.out _ G2.out.1)).mono ?_
  rintro e u3 ⟨rfl, hb⟩
  have G3 := Lib.hid ((G2.out.call hb).box r3)
  clear hb G2
  have HR3 := Lib.hid (HRW.out _ (below_al G3.out.1 (.cells #[] 23)))
  go_wp2_with (at_builtin; refine wpList_append_nums rfl (.tmp 43) (.tmp 44) rfl (u3.heap.size + 1) rfl (empty_new _ _ _ (by simp)) (some ⟨b, off, none⟩) xs.length cap xs rfl rfl hn (fun h => by cases h) (.inr ⟨b, off, rfl, HR3.out⟩) ?_; intro g cap' wa hrow hgrow)
  have hbw := below_app hgrow
  have g4 := G3.out.call hbw
  have G4 := Lib.hid g4
  have HROW := Lib.hid hrow
  clear hgrow hrow hbw g4 G3
  refine (H4.out _).mono ?_
  rintro e u4 ⟨rfl, hb⟩
  have HROW4 := Lib.hid ((HROW.out.below hb).below ((Below.refl _ _).alloc (Nat.le_refl _) (.cells #[.int .i64 r1.A, .int .i64 r1.B, .int .i64 r1.C, .int .i64 r1.D, .int .i64 r1.K] 23)))
  have g := G4.out.call hb
  obtain ⟨x0, x1, x2, x3, x4⟩ := (g.2 _ (.tail _ (.tail _ (.tail _ (.head _))))).cell
  have hlt := (g.2 _ (.tail _ (.tail _ (.tail _ (.head _))))).lt
  dsimp only at x0 x1 x2 x3 x4 hlt
  have G5 := Lib.hid (g.box r1)
  clear g hb G4 HROW
  go_wp2_with fail
  clear x0 x1 x2 x3 x4 hlt
  refine (H5.out _).mono ?_
  rintro e u5 ⟨rfl, hb⟩
  have HROW5 := Lib.hid ((HROW4.out.below hb).below ((Below.refl _ _).alloc (Nat.le_refl _) (.cells #[.int .i64 r2.A, .int .i64 r2.B, .int .i64 r2.C, .int .i64 r2.D, .int .i64 r2.K] 23)))
  have G6 := Lib.hid ((G5.out.call hb).box r2)
  clear hb G5 HROW4
  go_wp2_with fail
  refine (H6.out _ _ _ HROW5.out).mono ?_
  rintro e u6 ⟨rfl, hb⟩
  have HROW6 := Lib.hid ((HROW5.out.below hb).below ((Below.refl _ _).alloc (Nat.le_refl _) (.cells #[.int .i64 r3.A, .int .i64 r3.B, .int .i64 r3.C, .int .i64 r3.D, .int .i64 r3.K] 23)))
  have G7 := Lib.hid ((G6.out.call hb).box r3)
  clear hb G6 HROW5
  have hqq1 : (q1 == q1) = true := by simp
  have hqq2 : (q2 == q2) = true := by simp
  have hqq3 : (q3 == q3) = true := by simp
  go_wp2_with fail
  have HL : Hid (Got w [(u6.heap.size, r3), (u5.heap.size, r2), (u4.heap.size, r1), (u3.heap.size, r3), (u2.heap.size, r2), (u1.heap.size, r1), (w.heap.size, x)] (u6.alloc (.cells #[.int .i64 r3.A, .int .i64 r3.B, .int .i64 r3.C, .int .i64 r3.D, .int .i64 r3.K] 23)) ∧ Row (u6.alloc (.cells #[.int .i64 r3.A, .int .i64 r3.B, .int .i64 r3.C, .int .i64 r3.D, .int .i64 r3.K] 23)) b off xs ∧ Row (u6.alloc (.cells #[.int .i64 r3.A, .int .i64 r3.B, .int .i64 r3.C, .int .i64 r3.D, .int .i64 r3.K] 23)) g 0 xs) := ⟨G7.out, HRW.out _ G7.out.1, HROW6.out⟩
  clear G7 HROW6 HR3
  go_loopw [64] (fun i wr => ∃ j : Nat, j ≤ xs.length ∧ i = .int .i64 j ∧ Hid (Got w [(u6.heap.size, r3), (u5.heap.size, r2), (u4.heap.size, r1), (u3.heap.size, r3), (u2.heap.size, r2), (u1.heap.size, r1), (w.heap.size, x)] wr ∧ Row wr b off xs ∧ Row wr g 0 xs)) (fun i _ => xs.length - (intOf i).toNat)
  case atStart => exact ⟨0, by omega, rfl, HL.out⟩
  case round =>
    obtain ⟨j, hj, rfl, HI⟩ := hrel
    clear HL
    by_cases hlt : j < xs.length
    · obtain ⟨y, hy⟩ : ∃ y, xs[j]? = some y := ⟨_, List.getElem?_eq_getElem hlt⟩
      have HY := Lib.hid hy
      have hne : (!eq5 y y) = false := by rw [(eq5_iff y y).2 rfl]; rfl
      clear hy
      go_wp2_with fail
      refine region_fin (fun W => Got w [(u6.heap.size, r3), (u5.heap.size, r2), (u4.heap.size, r1), (u3.heap.size, r3), (u2.heap.size, r2), (u1.heap.size, r1), (w.heap.size, x)] W ∧ Row W b off xs ∧ Row W g 0 xs) 67 [.slice (some ⟨g, 0, none⟩) xs.length cap', .int .i64 j, .pointer (some ⟨g, 0 + j * 5, none⟩), y.v, .slice (some ⟨b, off, none⟩) xs.length cap, .int .i64 j, .pointer (some ⟨b, off + j * 5, none⟩), y.v, .bool false, u76, undef, undef, undef, undef, undef, undef, undef, undef, undef, undef, undef, undef, undef, undef, undef, undef, undef, undef, undef, undef, undef, undef, undef, undef, undef, undef, undef, undef, undef, undef, undef, undef, undef, undef, undef, undef, undef, undef] 67 (.slice (some ⟨g, 0, none⟩) xs.length cap') (by as_aux_lemma => kernel_rfl) (by as_aux_lemma => kernel_rfl) (by as_aux_lemma => kernel_rfl) (outV_fin _ 9 (by as_aux_lemma => kernel_rfl) (Nat.le_of_ble_eq_true (by kernel_rfl)) (Nat.le_of_ble_eq_true (by kernel_rfl)) (by as_aux_lemma => kernel_rfl)) ⟨HI.out.1.call (below_dN (Below.refl _ _) 1), HI.out.2.1.below (below_dN (Below.refl _ _) 1), HI.out.2.2.below (below_dN (Below.refl _ _) 1)⟩ ?_ ?_
      rotate_left
      · refine eachOp_cons (ok_val (by kernel_rfl) (by kernel_rfl) (fun _ => by kernel_rfl)) ?_
        refine eachOp_cons (ok_val (by kernel_rfl) (by kernel_rfl) (fun _ => by kernel_rfl)) ?_
        refine eachOp_cons (ok_val (by kernel_rfl) (by kernel_rfl) (fun _ => idx_num (b := g) (off := 0) (n := xs.length) (cap := cap') (k := j) rfl (by kernel_rfl) (by kernel_rfl) hlt)) ?_
        refine eachOp_cons (ok_load (by kernel_rfl) (by kernel_rfl) (fun _ hC => load_row (b := g) (off := 0) (i := j) (xs := xs) (x := y) rfl (by kernel_rfl) hC.2.2 HY.out)) ?_
        refine eachOp_cons (ok_val (by kernel_rfl) (by kernel_rfl) (fun _ => by kernel_rfl)) ?_
        refine eachOp_cons (ok_val (by kernel_rfl) (by kernel_rfl) (fun _ => by kernel_rfl)) ?_
        refine eachOp_cons (ok_val (by kernel_rfl) (by kernel_rfl) (fun _ => idx_num (b := b) (off := off) (n := xs.length) (cap := cap) (k := j) rfl (by kernel_rfl) (by kernel_rfl) hlt)) ?_
        refine eachOp_cons (ok_load (by kernel_rfl) (by kernel_rfl) (fun _ hC => load_row (b := b) (off := off) (i := j) (xs := xs) (x := y) rfl (by kernel_rfl) hC.2.1 HY.out)) ?_
        refine eachOp_cons (ok_val (by kernel_rfl) (by kernel_rfl) (fun _ => neq_row (x := y) (y := y) rfl (by kernel_rfl) (by kernel_rfl) hne)) ?_
        exact eachOp_nil
      intro W hW
      rename_i hK
      refine hK _ _ ?_
      have HI2 := Lib.hid hW
      clear hW HI hK
      simp only [finA, List.take_succ_cons, List.take_zero, List.cons_append, List.nil_append, List.set_cons_succ, List.set_cons_zero]
      go_wp2_with fail
      go_roundw
      case rel => exact ⟨j + 1, by omega, by go_num, HI2.out⟩
      case measure => simp [intOf]; omega
    · have HG := Lib.hid HI.out.1
      clear HI
      obtain ⟨c0, c1, c2, c3, c4⟩ := (HG.out.2 _ (.head _)).cell
      have ltc := (HG.out.2 _ (.head _)).lt
      dsimp only at c0 c1 c2 c3 c4 ltc
      obtain ⟨b0, b1, b2, b3, b4⟩ := (HG.out.2 _ (.tail _ (.head _))).cell
      have ltb := (HG.out.2 _ (.tail _ (.head _))).lt
      dsimp only at b0 b1 b2 b3 b4 ltb
      obtain ⟨a0, a1, a2, a3, a4⟩ := (HG.out.2 _ (.tail _ (.tail _ (.head _)))).cell
      have lta := (HG.out.2 _ (.tail _ (.tail _ (.head _)))).lt
      dsimp only at a0 a1 a2 a3 a4 lta
      obtain ⟨s0, s1, s2, s3, s4⟩ := (HG.out.2 _ (.tail _ (.tail _ (.tail _ (.head _))))).cell
      have lts := (HG.out.2 _ (.tail _ (.tail _ (.tail _ (.head _))))).lt
      dsimp only at s0 s1 s2 s3 s4 lts
      obtain ⟨p0, p1, p2, p3, p4⟩ := (HG.out.2 _ (.tail _ (.tail _ (.tail _ (.tail _ (.head _)))))).cell
      have ltp := (HG.out.2 _ (.tail _ (.tail _ (.tail _ (.tail _ (.head _)))))).lt
      dsimp only at p0 p1 p2 p3 p4 ltp
      obtain ⟨t0, t1, t2, t3, t4⟩ := (HG.out.2 _ (.tail _ (.tail _ (.tail _ (.tail _ (.tail _ (.head _))))))).cell
      have ltt := (HG.out.2 _ (.tail _ (.tail _ (.tail _ (.tail _ (.tail _ (.head _))))))).lt
      dsimp only at t0 t1 t2 t3 t4 ltt
      go_wp2_with fail
      refine (HO1.out _).mono ?_
      rintro e v1 ⟨rfl, hb1⟩
      have G8 := Lib.hid (HG.out.call hb1)
      go_wp2_with fail
      refine (HO2.out _).mono ?_
      rintro e v2 ⟨rfl, hb2⟩
      have G9 := Lib.hid (G8.out.call hb2)
      go_wp2_with fail
      refine (HA.out _ G9.out.1).mono ?_
      rintro e u9 ⟨rfl, hb⟩
      go_wp2_with fail
      go_ret
      exact ⟨rfl, below_via hb G9.out.1⟩

set_option maxHeartbeats 16000000 in
theorem RingPowers_none (x : Nm) (n k : Int) (hn0 : -9223372036854775808 ≤ n) (hn1 : n ≤ 9223372036854775807) (p : Option Addr) (cap : Nat) (hp : p = none → cap = 0) (w : World) (hv : Vars w) :
    Calls Tryz.prog 8 #[x.v, .int .i64 n, .int .i64 k, .slice p 0 cap] w (Gives (.bool true) w) := by
  have HA : Hid (∀ w', Below w.heap.size w w' → Calls Tryz.prog 9 #[] w' (Gives (.bool true) w')) := fun w' hb => awake_below hv hb
  have G0 : Hid (Got w [(w.heap.size, x)] (w.alloc (.cells #[.int .i64 x.A, .int .i64 x.B, .int .i64 x.C, .int .i64 x.D, .int .i64 x.K] 23))) := (Got.none w).box x
  obtain ⟨r1, q1, h1⟩ := rootP_two k
  obtain ⟨r2, q2, h2⟩ := powV_two x n
  obtain ⟨r3, q3, h3⟩ := sumV_two []
  have H1 : Hid (∀ w, Calls Tryz.prog 23 #[.int .i64 k] w (Gives (.tuple #[r1.v, .int .i64 q1]) w)) := fun w => h1 ▸ r_Root k w
  have H2 : Hid (∀ w, Calls Tryz.prog 24 #[x.v, .int .i64 n] w (Gives (.tuple #[r2.v, .int .i64 q2]) w)) := fun w => h2 ▸ r_Power x n w
  have H4 : Hid (∀ w, Calls Tryz.prog 26 #[.int .i64 k] w (Gives (.tuple #[r1.v, .int .i64 q1]) w)) := fun w => h1 ▸ Root_any k w
  have H5 : Hid (∀ w, Calls Tryz.prog 27 #[x.v, .int .i64 n] w (Gives (.tuple #[r2.v, .int .i64 q2]) w)) := fun w => h2 ▸ Power_any x n w
  have HO1 : Hid (∀ w, Calls Tryz.prog 29 #[.int .i64 n] w (Gives (pw (n % 8).toNat).v w)) := fun w => Omega_any n w
  have HO2 : Hid (∀ w, Calls Tryz.prog 30 #[.int .i64 n] w (Gives (pw (n % 8).toNat).v w)) := fun w => r_OmegaZ n w hn0 hn1

  have H3 : Hid (∀ w', Calls Tryz.prog 25 #[.slice p 0 cap] w' (Gives (.tuple #[r3.v, .int .i64 q3]) w')) := fun w' => by
    rw [← h3]
    exact r_SumE p cap w'
  have H6 : Hid (∀ w' (g cap : Nat), Row w' g 0 [] → Calls Tryz.prog 28 #[.slice (some ⟨g, 0, none⟩) 0 cap] w' (Gives (.tuple #[r3.v, .int .i64 q3]) w')) := fun w' g cap h => h3 ▸ Sum_any [] g 0 cap w' h (by simp)

  clear hv h1 h2 h3
  generalize pw (n % 8).toNat = om at *
  go_enter Tryz.func8, Tryz.ntmps8
  go_wp2_with fail
  refine (H1.out _).mono ?_
  rintro e u1 ⟨rfl, hb⟩
  have g := G0.out.call hb
  obtain ⟨x0, x1, x2, x3, x4⟩ := (g.2 _ (.head _)).cell
  have hlt := (g.2 _ (.head _)).lt
  dsimp only at x0 x1 x2 x3 x4 hlt
  have G1 := Lib.hid (g.box r1)
  clear g hb G0
  go_wp2_with fail
  clear x0 x1 x2 x3 x4 hlt
  refine (H2.out _).mono ?_
  rintro e u2 ⟨rfl, hb⟩
  have G2 := Lib.hid ((G1.out.call hb).box r2)
  clear hb G1
  go_wp2_with fail
  refine (H3.out _).mono ?_
  rintro e u3 ⟨rfl, hb⟩
  have G3 := Lib.hid ((G2.out.call hb).box r3)
  clear hb G2
  go_wp2_with (at_builtin; refine wpList_append_nums rfl (.tmp 43) (.tmp 44) rfl (u3.heap.size + 1) rfl (empty_new _ _ _ (by simp)) p 0 cap [] rfl rfl (by omega) hp (.inl rfl) ?_; intro g cap' wa hrow hgrow)
  have hbw := below_app hgrow
  have g4 := G3.out.call hbw
  have G4 := Lib.hid g4
  have HROW := Lib.hid hrow
  clear hgrow hrow hbw g4 G3
  refine (H4.out _).mono ?_
  rintro e u4 ⟨rfl, hb⟩
  have HROW4 := Lib.hid ((HROW.out.below hb).below ((Below.refl _ _).alloc (Nat.le_refl _) (.cells #[.int .i64 r1.A, .int .i64 r1.B, .int .i64 r1.C, .int .i64 r1.D, .int .i64 r1.K] 23)))
  have g := G4.out.call hb
  obtain ⟨x0, x1, x2, x3, x4⟩ := (g.2 _ (.tail _ (.tail _ (.tail _ (.head _))))).cell
  have hlt := (g.2 _ (.tail _ (.tail _ (.tail _ (.head _))))).lt
  dsimp only at x0 x1 x2 x3 x4 hlt
  have G5 := Lib.hid (g.box r1)
  clear g hb G4 HROW
  go_wp2_with fail
  clear x0 x1 x2 x3 x4 hlt
  refine (H5.out _).mono ?_
  rintro e u5 ⟨rfl, hb⟩
  have HROW5 := Lib.hid ((HROW4.out.below hb).below ((Below.refl _ _).alloc (Nat.le_refl _) (.cells #[.int .i64 r2.A, .int .i64 r2.B, .int .i64 r2.C, .int .i64 r2.D, .int .i64 r2.K] 23)))
  have G6 := Lib.hid ((G5.out.call hb).box r2)
  clear hb G5 HROW4
  go_wp2_with fail
  refine (H6.out _ _ _ HROW5.out).mono ?_
  rintro e u6 ⟨rfl, hb⟩
  have HROW6 := Lib.hid ((HROW5.out.below hb).below ((Below.refl _ _).alloc (Nat.le_refl _) (.cells #[.int .i64 r3.A, .int .i64 r3.B, .int .i64 r3.C, .int .i64 r3.D, .int .i64 r3.K] 23)))
  have G7 := Lib.hid ((G6.out.call hb).box r3)
  clear hb G6 HROW5
  have hqq1 : (q1 == q1) = true := by simp
  have hqq2 : (q2 == q2) = true := by simp
  have hqq3 : (q3 == q3) = true := by simp
  go_wp2_with fail
  have HL : Hid (Got w [(u6.heap.size, r3), (u5.heap.size, r2), (u4.heap.size, r1), (u3.heap.size, r3), (u2.heap.size, r2), (u1.heap.size, r1), (w.heap.size, x)] (u6.alloc (.cells #[.int .i64 r3.A, .int .i64 r3.B, .int .i64 r3.C, .int .i64 r3.D, .int .i64 r3.K] 23))) := G7.out
  clear G7 HROW6
  go_loopw [64] (fun i wr => i = .int .i64 0 ∧ Hid (Got w [(u6.heap.size, r3), (u5.heap.size, r2), (u4.heap.size, r1), (u3.heap.size, r3), (u2.heap.size, r2), (u1.heap.size, r1), (w.heap.size, x)] wr)) (fun i _ => 0)
  case atStart => exact ⟨rfl, HL.out⟩
  case round =>
    obtain ⟨rfl, HG⟩ := hrel
    clear HL
    by_cases hlt : (0 : Nat) < 0
    · omega
    ·
      obtain ⟨c0, c1, c2, c3, c4⟩ := (HG.out.2 _ (.head _)).cell
      have ltc := (HG.out.2 _ (.head _)).lt
      dsimp only at c0 c1 c2 c3 c4 ltc
      obtain ⟨b0, b1, b2, b3, b4⟩ := (HG.out.2 _ (.tail _ (.head _))).cell
      have ltb := (HG.out.2 _ (.tail _ (.head _))).lt
      dsimp only at b0 b1 b2 b3 b4 ltb
      obtain ⟨a0, a1, a2, a3, a4⟩ := (HG.out.2 _ (.tail _ (.tail _ (.head _)))).cell
      have lta := (HG.out.2 _ (.tail _ (.tail _ (.head _)))).lt
      dsimp only at a0 a1 a2 a3 a4 lta
      obtain ⟨s0, s1, s2, s3, s4⟩ := (HG.out.2 _ (.tail _ (.tail _ (.tail _ (.head _))))).cell
      have lts := (HG.out.2 _ (.tail _ (.tail _ (.tail _ (.head _))))).lt
      dsimp only at s0 s1 s2 s3 s4 lts
      obtain ⟨p0, p1, p2, p3, p4⟩ := (HG.out.2 _ (.tail _ (.tail _ (.tail _ (.tail _ (.head _)))))).cell
      have ltp := (HG.out.2 _ (.tail _ (.tail _ (.tail _ (.tail _ (.head _)))))).lt
      dsimp only at p0 p1 p2 p3 p4 ltp
      obtain ⟨t0, t1, t2, t3, t4⟩ := (HG.out.2 _ (.tail _ (.tail _ (.tail _ (.tail _ (.tail _ (.head _))))))).cell
      have ltt := (HG.out.2 _ (.tail _ (.tail _ (.tail _ (.tail _ (.tail _ (.head _))))))).lt
      dsimp only at t0 t1 t2 t3 t4 ltt
      go_wp2_with fail
      refine (HO1.out _).mono ?_
      rintro e v1 ⟨rfl, hb1⟩
      have G8 := Lib.hid (HG.out.call hb1)
      go_wp2_with fail
      refine (HO2.out _).mono ?_
      rintro e v2 ⟨rfl, hb2⟩
      have G9 := Lib.hid (G8.out.call hb2)
      go_wp2_with fail
      refine (HA.out _ G9.out.1).mono ?_
      rintro e u9 ⟨rfl, hb⟩
      go_wp2_with fail
      go_ret
      exact ⟨rfl, below_via hb G9.out.1⟩

end Go.Proofs.YtcdmcndjbajhlaaGreatDoor
