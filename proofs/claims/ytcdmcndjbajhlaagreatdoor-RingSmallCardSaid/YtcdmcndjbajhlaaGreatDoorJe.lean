/- The program's Sum: a copy of the list is made. -/
import Derived.Test.YtcdmcndjbajhlaaGreatDoorJk
import Derived.Test.YtcdmcndjbajhlaaGreatDoorJu
import Derived.Test.YtcdmcndjbajhlaaGreatDoorJt
import Derived.OwnWalk
import Derived.Laws.CopyOwn
set_option linter.all false
set_option maxRecDepth 100000
namespace Go.Proofs.YtcdmcndjbajhlaaGreatDoor
open Go.RowKit

/-- From cell off of block b on there lie the numbers of a list. -/
def Row (w : World) (b off : Nat) (xs : List Nm) : Prop := b < w.heap.size ∧ ∀ (i : Nat) (x : Nm), xs[i]? = some x →
  w.cell? ⟨b, off + i * 5, none⟩ = some (.int .i64 x.A) ∧ w.cell? ⟨b, off + i * 5 + 1, none⟩ = some (.int .i64 x.B) ∧ w.cell? ⟨b, off + i * 5 + 2, none⟩ = some (.int .i64 x.C) ∧ w.cell? ⟨b, off + i * 5 + 3, none⟩ = some (.int .i64 x.D) ∧ w.cell? ⟨b, off + i * 5 + 4, none⟩ = some (.int .i64 x.K)
theorem Row.below {w w' : World} {b off : Nat} {xs : List Nm} (h : Row w b off xs) (hb : Below w.heap.size w w') : Row w' b off xs := by
  have hc := (bcell hb).1
  refine ⟨Nat.lt_of_lt_of_le h.1 hb.size, fun i x hx => ?_⟩
  obtain ⟨h0, h1, h2, h3, h4⟩ := h.2 i x hx
  exact ⟨(hc _ _ h.1).trans h0, (hc _ _ h.1).trans h1, (hc _ _ h.1).trans h2, (hc _ _ h.1).trans h3, (hc _ _ h.1).trans h4⟩
/-- The first error of a list. -/
def chks : List Nm → Int
  | [] => 0
  | x :: l => if x.chk = 0 then chks l else x.chk
theorem chks_drop {xs : List Nm} {k : Nat} {x : Nm} (h : xs[k]? = some x) : chks (xs.drop k) = if x.chk = 0 then chks (xs.drop (k + 1)) else x.chk := by
  obtain ⟨hk, rfl⟩ := List.getElem?_eq_some_iff.1 h
  rw [List.drop_eq_getElem_cons hk]
  rfl
set_option maxHeartbeats 4000000 in
theorem r_checksL (xs : List Nm) (b off cap : Nat) (w : World) (hb : Row w b off xs) (hn : xs.length ≤ 100) :
    Calls Tryz.prog 68 #[.slice (some ⟨b, off, none⟩) xs.length cap] w (Gives (.int .i64 (chks xs)) w) := by
  have HC : Hid (∀ (x : Nm) w, Calls Tryz.prog 41 #[x.v] w (Gives (.int .i64 x.chk) w)) := fun x w => r_check _ _ _ _ _ w
  obtain ⟨R, hR⟩ : ∃ R, R = chks xs := ⟨_, rfl⟩
  rw [← hR]
  have HR : Hid (R = chks (xs.drop 0)) := by rw [hR]; rfl
  have HB := Lib.hid hb
  clear hb hR
  go_enter Tryz.func68, Tryz.ntmps68
  go_wp2
  go_loopw [3] (fun i wr => ∃ k : Nat, k ≤ xs.length ∧ i = .int .i64 k ∧ Below w.heap.size w wr ∧ Hid (R = chks (xs.drop k))) (fun i _ => xs.length - (intOf i).toNat)
  case atStart => exact ⟨0, by omega, rfl, Below.refl _ _, HR.out⟩
  case round =>
    obtain ⟨k, hk, rfl, hwr, HK⟩ := hrel
    by_cases hlt : k < xs.length
    · obtain ⟨x, hx⟩ : ∃ x, xs[k]? = some x := ⟨_, List.getElem?_eq_getElem hlt⟩
      obtain ⟨c0, c1, c2, c3, c4⟩ := (HB.out.below hwr).2 k x hx
      have hd := chks_drop hx
      by_cases hc : x.chk = 0
      · rw [if_pos hc] at hd
        have HD := Lib.hid (HK.out.trans hd)
        have HCx : Hid (∀ w, Calls Tryz.prog 41 #[nv x.A x.B x.C x.D x.K] w (Gives (.int .i64 0) w)) := fun w => by rw [← hc]; exact HC.out x w
        clear hd hx HK hc
        go_wp2_with fail
        refine (HCx.out _).mono ?_
        rintro e w1 ⟨rfl, hb1⟩
        go_wp2_with fail
        go_roundw
        case rel => exact ⟨k + 1, by omega, by go_num, below_via hb1 hwr, HD.out⟩
        case measure => simp [intOf]; omega
      · rw [if_neg hc] at hd
        have HD := Lib.hid (HK.out.trans hd)
        have HCx : Hid (∀ w, Calls Tryz.prog 41 #[nv x.A x.B x.C x.D x.K] w (Gives (.int .i64 x.chk) w)) := fun w => HC.out x w
        have hq : (x.chk != 0) = true := bne_iff_ne.2 hc
        generalize x.chk = q at *
        clear hd hx HK hc
        go_wp2_with fail
        refine (HCx.out _).mono ?_
        rintro e w1 ⟨rfl, hb1⟩
        go_wp2_with fail
        rw [HD.out]
        go_ret
        exact ⟨rfl, below_via hb1 hwr⟩
    · have hd : R = 0 := by
        rw [HK.out, List.drop_eq_nil_of_le (by omega)]
        rfl
      have HD := Lib.hid hd
      clear hd HK
      go_wp2_with fail
      rw [HD.out]
      go_ret
      exact ⟨rfl, hwr⟩
/-- Without memory: no numbers. -/
theorem r_checks0 (w : World) : Calls Tryz.prog 68 #[.slice none 0 0] w (Gives (.int .i64 0) w) := by
  go_enter Tryz.func68, Tryz.ntmps68
  go_wp2
  go_loopw [3] (fun i wr => i = .int .i64 0 ∧ wr = w) (fun i _ => 0)
  case atStart => exact ⟨rfl, rfl⟩
  case round =>
    obtain ⟨rfl, rfl⟩ := hrel
    go_wp2_with fail
    go_ret
    exact ⟨rfl, Below.refl _ _⟩

/-- Sums, from the left to the right: the sum so far, the error. -/
def sumR : List Nm → Nm → Nm × Int
  | [], s => (s, 0)
  | x :: l, s => if jointE s x (addN s x) = 0 then sumR l (jointN s x (addN s x)) else (jointN s x (addN s x), jointE s x (addN s x))
theorem sumR_drop {xs : List Nm} {k : Nat} {x : Nm} (s : Nm) (h : xs[k]? = some x) : sumR (xs.drop k) s = if jointE s x (addN s x) = 0 then sumR (xs.drop (k + 1)) (jointN s x (addN s x)) else (jointN s x (addN s x), jointE s x (addN s x)) := by
  obtain ⟨hk, rfl⟩ := List.getElem?_eq_some_iff.1 h
  rw [List.drop_eq_getElem_cons hk]
  rfl
/-- The two blocks of the reference's Sum. -/
def InSum (w : World) (bs : Nat) (s : Nm) (W : World) : Prop := Below w.heap.size w W ∧ Box W w.heap.size 23 nul ∧ Box W bs 23 s ∧ w.heap.size < bs
theorem InSum.call {w W W' : World} {bs : Nat} {s : Nm} (h : InSum w bs s W) (hb : Below W.heap.size W W') : InSum w bs s W' :=
  ⟨below_via hb h.1, h.2.1.below hb h.2.1.lt, h.2.2.1.below hb h.2.2.1.lt, h.2.2.2⟩
end Go.Proofs.YtcdmcndjbajhlaaGreatDoor
namespace Go.Proofs.YtcdmcndjbajhlaaGreatDoor
open Go.RowKit

/-- The address of a number in a row. -/
theorem idx_num {o : Oper} {a : Act} {s t : Operand} {b off n cap k : Nat} {W : World} (ho : o.op = .indexAddr 25 s t) (hs : a.eval s = .slice (some ⟨b, off, none⟩) n cap) (ht : a.eval t = .int .i64 k) (hk : k < n) :
    (execOp a.eval o).run Tryz.prog W = .ok (.value (.pointer (some ⟨b, off + k * 5, none⟩))) W := by
  obtain ⟨dst, op, ty, pos, af, gd⟩ := o
  dsimp only at ho
  subst ho
  generalize a.eval = e at *
  have hk2 : (k : Int) < n := by omega
  simp [go_sem, hs, ht, hk, hk2]
/-- A number of a row is read. -/
theorem load_row {o : Oper} {a : Act} {t : Operand} {b off i : Nat} {xs : List Nm} {x : Nm} {W : World} (ho : o.op = .load 23 t) (ha : a.eval t = .pointer (some ⟨b, off + i * 5, none⟩)) (hb : Row W b off xs) (hx : xs[i]? = some x) : (execOp a.eval o).run Tryz.prog W = .ok (.value x.v) W := by
  obtain ⟨h0, h1, h2, h3, h4⟩ := hb.2 i x hx
  obtain ⟨dst, op, ty, pos, af, gd⟩ := o
  dsimp only at ho
  subst ho
  generalize a.eval = e at *
  simp [go_sem, ha, h0, h1, h2, h3, h4]

theorem InSum.put {w W : World} {bs : Nat} {s : Nm} (h : InSum w bs s W) (r : Nm) : InSum w bs r (((((W.setCell ⟨bs, 0, none⟩ (.int .i64 r.A)).setCell ⟨bs, 1, none⟩ (.int .i64 r.B)).setCell ⟨bs, 2, none⟩ (.int .i64 r.C)).setCell ⟨bs, 3, none⟩ (.int .i64 r.D)).setCell ⟨bs, 4, none⟩ (.int .i64 r.K)) := by
  obtain ⟨h1, h2, h3, h4⟩ := h
  have hle : w.heap.size ≤ bs := by omega
  have hne : w.heap.size ≠ bs := by omega
  exact ⟨((((h1.setCell hle _).setCell hle _).setCell hle _).setCell hle _).setCell hle _, ((((h2.other hne).other hne).other hne).other hne).other hne, box_cells h3 r, h4⟩
theorem Row.set {W : World} {b off b' o : Nat} {xs : List Nm} {v : Value} (h : Row W b off xs) (hn : b ≠ b') : Row (W.setCell ⟨b', o, none⟩ v) b off xs := by
  have hh : (W.setCell ⟨b', o, none⟩ v).heap[b]? = W.heap[b]? := Below.heap_setCell _ _ _ _ hn
  have hs : ∀ j, (W.setCell ⟨b', o, none⟩ v).cell? ⟨b, j, none⟩ = W.cell? ⟨b, j, none⟩ := fun j => by simp only [World.cell?, hh]
  refine ⟨by simp [World.setCell]; exact h.1, fun i x hx => ?_⟩
  rw [hs, hs, hs, hs, hs]
  exact h.2 i x hx
theorem Row.set5 {W : World} {b off b' : Nat} {xs : List Nm} (h : Row W b off xs) (hn : b ≠ b') (r : Nm) : Row (((((W.setCell ⟨b', 0, none⟩ (.int .i64 r.A)).setCell ⟨b', 1, none⟩ (.int .i64 r.B)).setCell ⟨b', 2, none⟩ (.int .i64 r.C)).setCell ⟨b', 3, none⟩ (.int .i64 r.D)).setCell ⟨b', 4, none⟩ (.int .i64 r.K)) b off xs :=
  ((((h.set hn).set hn).set hn).set hn).set hn
/-- What the sum of a list is, and its error. -/
def sumV (xs : List Nm) : Value := if chks xs = 0 then .tuple #[(sumR xs nul).1.v, .int .i64 (sumR xs nul).2] else .tuple #[nul.v, .int .i64 (chks xs)]
set_option maxHeartbeats 4000000 in
theorem r_SumL (xs : List Nm) (b off cap : Nat) (w : World) (hb : Row w b off xs) (hn : xs.length ≤ 100) :
    Calls Tryz.prog 25 #[.slice (some ⟨b, off, none⟩) xs.length cap] w (Gives (sumV xs) w) := by
  have HC : Hid (∀ w, Row w b off xs → Calls Tryz.prog 68 #[.slice (some ⟨b, off, none⟩) xs.length cap] w (Gives (.int .i64 (chks xs)) w)) := fun w h => r_checksL xs b off cap w h hn
  have HB := Lib.hid hb
  have hlt0 := hb.1
  clear hb
  unfold sumV
  by_cases h : chks xs = 0
  · rw [if_pos h]
    rw [h] at HC
    have HA : Hid (∀ (s x : Nm) w, Calls Tryz.prog 42 #[s.v, x.v] w (Gives (.tuple #[(jointN s x (addN s x)).v, .int .i64 (jointE s x (addN s x))]) w)) := fun s x w => r_Add s x w
    obtain ⟨R, hR⟩ : ∃ R, R = sumR xs nul := ⟨_, rfl⟩
    rw [← hR]
    have HR := Lib.hid hR
    clear hR h
    have hb1 : Row (w.alloc (.cells #[.int .i64 0, .int .i64 0, .int .i64 0, .int .i64 0, .int .i64 0] 23)) b off xs := HB.out.below ((Below.refl _ _).alloc (Nat.le_refl _) _)
    go_enter Tryz.func25, Tryz.ntmps25
    go_wp2_with fail
    refine (HC.out _ hb1).mono ?_
    rintro e w1 ⟨rfl, hb2⟩
    have hw1 : Below w.heap.size w w1 := below_via hb2 (by repeat (first | with_reducible exact Below.refl _ _ | with_reducible refine below_al ?_ _ | with_reducible refine below_dN ?_ _ | with_reducible refine Below.drew ?_ | (with_reducible refine Below.setCell ?_ (by simp <;> omega) _) | (with_reducible refine below_via (by assumption) ?_)))
    have hr1 := hb1.below hb2
    have hz1 : Box w1 w.heap.size 23 nul := (box_new w 0 0 0 0 0 _).below hb2 (by simp)
    have HI : Hid (InSum w w1.heap.size nul (w1.alloc (.cells #[.int .i64 0, .int .i64 0, .int .i64 0, .int .i64 0, .int .i64 0] 23)) ∧ Row (w1.alloc (.cells #[.int .i64 0, .int .i64 0, .int .i64 0, .int .i64 0, .int .i64 0] 23)) b off xs) :=
      ⟨⟨below_al hw1 _, box_al hz1 _, box_new w1 0 0 0 0 0 _, hz1.lt⟩, hr1.below ((Below.refl _ _).alloc (Nat.le_refl _) _)⟩
    clear hb1 hb2 hw1 hr1 hz1 HB HC
    go_wp2_with fail
    have hbs : b ≠ w1.heap.size := by have := HI.out.1.2.2.2; omega
    generalize w1.heap.size = bs at HI hbs ⊢
    go_loopw [6, 7] (fun e i wr => ∃ (k : Nat) (s : Nm) (q : Int), k ≤ xs.length ∧ i = .int .i64 k ∧ e = .int .i64 q ∧ Hid (InSum w bs s wr ∧ Row wr b off xs) ∧ Hid (R = if q = 0 then sumR (xs.drop k) s else (s, q))) (fun _ i _ => xs.length - (intOf i).toNat)
    case atStart => exact ⟨0, nul, 0, by omega, rfl, rfl, HI.out, HR.out⟩
    case round =>
      obtain ⟨k, s, q, hk, rfl, rfl, HI, HK⟩ := hrel
      clear HR
      obtain ⟨z0, z1, z2, z3, z4⟩ := HI.out.1.2.1.cell
      obtain ⟨g0, g1, g2, g3, g4⟩ := HI.out.1.2.1.free
      obtain ⟨s0, s1, s2, s3, s4⟩ := HI.out.1.2.2.1.cell
      have hltz := HI.out.1.2.1.lt
      have hlts := HI.out.1.2.2.1.lt
      have hw := HI.out.1.1
      dsimp only at z0 z1 z2 z3 z4
      by_cases hq : q = 0
      · subst hq
        by_cases hlt : k < xs.length
        · obtain ⟨x, hx⟩ : ∃ x, xs[k]? = some x := ⟨_, List.getElem?_eq_getElem hlt⟩
          have hst := HK.out
          rw [if_pos rfl, sumR_drop s hx] at hst
          have HAx := Lib.hid (HA.out s x)
          have hsn : R = if jointE s x (addN s x) = 0 then sumR (xs.drop (k + 1)) (jointN s x (addN s x)) else (jointN s x (addN s x), jointE s x (addN s x)) := hst
          generalize jointN s x (addN s x) = r at *
          generalize jointE s x (addN s x) = p at *
          have HS := Lib.hid hsn
          have HX := Lib.hid hx
          clear hst hsn hx HK z0 z1 z2 z3 z4 g0 g1 g2 g3 g4 s0 s1 s2 s3 s4 hltz hlts hw
          go_wp2_with fail
          refine region_stores (fun n W => InSum w bs (match n with | 0 => s | _ => r) W ∧ Row W b off xs) [9] 24 [.tuple #[r.v, .int .i64 p], s.v, .slice (some ⟨b, off, none⟩) xs.length cap, .int .i64 k, .pointer (some ⟨b, off + k * 5, none⟩), x.v, .tuple #[r.v, .int .i64 p], r.v, .int .i64 p, undef, undef] 6 (.int .i64 p) (by as_aux_lemma => kernel_rfl) (by as_aux_lemma => kernel_rfl) (by as_aux_lemma => kernel_rfl) (by as_aux_lemma => kernel_rfl) (by as_aux_lemma => kernel_rfl) ⟨HI.out.1.call (below_dN (Below.refl _ _) 1), HI.out.2.below (below_dN (Below.refl _ _) 1)⟩ ?_ ?_
          rotate_left
          · refine eachOp_cons (okM_load (by kernel_rfl) (by kernel_rfl) (by kernel_rfl) rfl rfl (by kernel_rfl) (fun W hC => load_num (b := bs) (x := s) rfl (by kernel_rfl) hC.1.2.2.1)) ?_
            refine eachOp_cons (okM_val (by kernel_rfl) (by kernel_rfl) (by kernel_rfl) (fun _ => by kernel_rfl)) ?_
            refine eachOp_cons (okM_val (by kernel_rfl) (by kernel_rfl) (by kernel_rfl) (fun _ => by kernel_rfl)) ?_
            refine eachOp_cons (okM_val (by kernel_rfl) (by kernel_rfl) (by kernel_rfl) (fun _ => idx_num (b := b) (off := off) (n := xs.length) (cap := cap) (k := k) rfl (by kernel_rfl) (by kernel_rfl) hlt)) ?_
            refine eachOp_cons (okM_load (by kernel_rfl) (by kernel_rfl) (by kernel_rfl) rfl rfl (by kernel_rfl) (fun W hC => load_row (b := b) (off := off) (i := k) (xs := xs) (x := x) rfl (by kernel_rfl) hC.2 HX.out)) ?_
            refine eachOp_cons (okM_call 42 #[s.v, x.v] (by kernel_rfl) (by kernel_rfl) (by kernel_rfl) (fun _ => by kernel_rfl) (fun n W hC => (HAx.out W).mono fun _ _ h => ⟨h.1, hC.1.call h.2, hC.2.below h.2⟩)) ?_
            refine eachOp_cons (okM_val (by kernel_rfl) (by kernel_rfl) (by kernel_rfl) (fun _ => by kernel_rfl)) ?_
            refine eachOp_cons (okM_val (by kernel_rfl) (by kernel_rfl) (by kernel_rfl) (fun _ => by kernel_rfl)) ?_
            refine eachOp_cons (okM_val (by kernel_rfl) (by kernel_rfl) (by kernel_rfl) (fun _ => by kernel_rfl)) ?_
            refine eachOp_cons (okM_store 0 rfl (by kernel_rfl) (by kernel_rfl) rfl (fun W hC => ⟨_, store_num (b := bs) (x := s) (y := r) rfl (by kernel_rfl) (by kernel_rfl) hC.1.2.2.1, hC.1.put r, hC.2.set5 hbs r⟩)) ?_
            refine eachOp_cons (okM_val (by kernel_rfl) (by kernel_rfl) (by kernel_rfl) (fun _ => by kernel_rfl)) ?_
            exact eachOp_nil
          intro W hW
          rename_i hK
          refine hK _ _ ?_
          have HI2 := Lib.hid hW
          clear hW HI hK
          simp only [finA, List.take_succ_cons, List.take_zero, List.cons_append, List.nil_append, List.set_cons_succ, List.set_cons_zero]
          go_wp2_with fail
          go_roundw
          case rel => exact ⟨k + 1, r, p, by omega, by go_num, rfl, HI2.out, HS.out⟩
          case measure => simp [intOf]; omega
        · have hre : R = (s, 0) := by
            rw [HK.out, if_pos rfl, List.drop_eq_nil_of_le (by omega)]
            rfl
          have HRE := Lib.hid hre
          clear hre HK
          go_wp2_with fail
          rw [HRE.out]
          exact bodyPost_ret (v := .tuple #[s.v, .int .i64 0]) (by simp [results, Tryz.results25, go_sem, z0, z1, z2, z3, z4]) rfl ⟨rfl, by first | exact hw | exact ((((hw.setCell (Nat.le_refl _) _).setCell (Nat.le_refl _) _).setCell (Nat.le_refl _) _).setCell (Nat.le_refl _) _).setCell (Nat.le_refl _) _⟩
      · have hre : R = (s, q) := by rw [HK.out, if_neg hq]
        have HRE := Lib.hid hre
        have hq2 : (q == 0) = false := beq_eq_false_iff_ne.2 hq
        clear hre HK
        by_cases hlt : k < xs.length
        · go_wp2_with fail
          rw [HRE.out]
          exact bodyPost_ret (v := .tuple #[s.v, .int .i64 q]) (by simp [results, Tryz.results25, go_sem, z0, z1, z2, z3, z4]) rfl ⟨rfl, by first | exact hw | exact ((((hw.setCell (Nat.le_refl _) _).setCell (Nat.le_refl _) _).setCell (Nat.le_refl _) _).setCell (Nat.le_refl _) _).setCell (Nat.le_refl _) _⟩
        · go_wp2_with fail
          rw [HRE.out]
          exact bodyPost_ret (v := .tuple #[s.v, .int .i64 q]) (by simp [results, Tryz.results25, go_sem, z0, z1, z2, z3, z4]) rfl ⟨rfl, by first | exact hw | exact ((((hw.setCell (Nat.le_refl _) _).setCell (Nat.le_refl _) _).setCell (Nat.le_refl _) _).setCell (Nat.le_refl _) _).setCell (Nat.le_refl _) _⟩
  · have h2 : (chks xs != 0) = true := bne_iff_ne.2 h
    rw [if_neg h]
    generalize chks xs = q at *
    clear h
    have hb1 : Row (w.alloc (.cells #[.int .i64 0, .int .i64 0, .int .i64 0, .int .i64 0, .int .i64 0] 23)) b off xs := HB.out.below ((Below.refl _ _).alloc (Nat.le_refl _) _)
    go_enter Tryz.func25, Tryz.ntmps25
    go_wp2_with fail
    refine (HC.out _ hb1).mono ?_
    rintro e w1 ⟨rfl, hb2⟩
    have hw : Below w.heap.size w w1 := below_via hb2 (by repeat (first | with_reducible exact Below.refl _ _ | with_reducible refine below_al ?_ _ | with_reducible refine below_dN ?_ _ | with_reducible refine Below.drew ?_ | (with_reducible refine Below.setCell ?_ (by simp <;> omega) _) | (with_reducible refine below_via (by assumption) ?_)))
    have hz1 : Box w1 w.heap.size 23 nul := (box_new w 0 0 0 0 0 _).below hb2 (by simp)
    obtain ⟨z0, z1, z2, z3, z4⟩ := hz1.cell
    obtain ⟨g0, g1, g2, g3, g4⟩ := hz1.free
    have hltz := hz1.lt
    dsimp only at z0 z1 z2 z3 z4
    clear hz1 hb1 hb2 HB HC
    go_wp2_with fail
    exact bodyPost_ret (v := .tuple #[nul.v, .int .i64 q]) (by simp [results, Tryz.results25, go_sem, z0, z1, z2, z3, z4]) rfl ⟨rfl, by first | exact hw | exact ((((hw.setCell (Nat.le_refl _) _).setCell (Nat.le_refl _) _).setCell (Nat.le_refl _) _).setCell (Nat.le_refl _) _).setCell (Nat.le_refl _) _⟩
end Go.Proofs.YtcdmcndjbajhlaaGreatDoor
namespace Go.Proofs.YtcdmcndjbajhlaaGreatDoor
open Go.RowKit

set_option maxHeartbeats 4000000 in
theorem first_any (xs : List Nm) (b off cap : Nat) (w : World) (hb : Row w b off xs) (hn : xs.length ≤ 100) :
    Calls Tryz.prog 70 #[.slice (some ⟨b, off, none⟩) xs.length cap, .func (.func 15) #[] #[]] w (Gives (.int .i64 (chks xs)) w) := by
  have HC : Hid (∀ (x : Nm) w, Calls Tryz.prog 15 #[x.v] w (Gives (.int .i64 x.chk) w)) := fun x w => check_any _ _ _ _ _ w
  obtain ⟨R, hR⟩ : ∃ R, R = chks xs := ⟨_, rfl⟩
  rw [← hR]
  have HR : Hid (R = chks (xs.drop 0)) := by rw [hR]; rfl
  have HB := Lib.hid hb
  clear hb hR
  go_enter Tryz.func70, Tryz.ntmps70
  go_wp2
  go_loopw [10] (fun i wr => ∃ k : Nat, k ≤ xs.length ∧ i = .int .i64 k ∧ Below w.heap.size w wr ∧ Hid (R = chks (xs.drop k))) (fun i _ => xs.length - (intOf i).toNat)
  case atStart => exact ⟨0, by omega, rfl, Below.refl _ _, HR.out⟩
  case round =>
    obtain ⟨k, hk, rfl, hwr, HK⟩ := hrel
    by_cases hlt : k < xs.length
    · obtain ⟨x, hx⟩ : ∃ x, xs[k]? = some x := ⟨_, List.getElem?_eq_getElem hlt⟩
      obtain ⟨c0, c1, c2, c3, c4⟩ := (HB.out.below hwr).2 k x hx
      have hd := chks_drop hx
      by_cases hc : x.chk = 0
      · rw [if_pos hc] at hd
        have HD := Lib.hid (HK.out.trans hd)
        have HCx : Hid (∀ w, Calls Tryz.prog 15 #[nv x.A x.B x.C x.D x.K] w (Gives (.int .i64 0) w)) := fun w => by rw [← hc]; exact HC.out x w
        clear hd hx HK hc
        go_wp2_with fail
        refine (HCx.out _).mono ?_
        rintro e w1 ⟨rfl, hb1⟩
        have hw2 := below_via hb1 (below_al hwr _)
        go_wp2_with fail
        go_roundw
        case rel => exact ⟨k + 1, by omega, by go_num, hw2, HD.out⟩
        case measure => simp [intOf]; omega
      · rw [if_neg hc] at hd
        have HD := Lib.hid (HK.out.trans hd)
        have HCx : Hid (∀ w, Calls Tryz.prog 15 #[nv x.A x.B x.C x.D x.K] w (Gives (.int .i64 x.chk) w)) := fun w => HC.out x w
        have hq : (x.chk != 0) = true := bne_iff_ne.2 hc
        generalize x.chk = q at *
        clear hd hx HK hc
        go_wp2_with fail
        refine (HCx.out _).mono ?_
        rintro e w1 ⟨rfl, hb1⟩
        have hw2 := below_via hb1 (below_al hwr _)
        go_wp2_with fail
        rw [HD.out]
        go_ret
        exact ⟨rfl, hw2⟩
    · have hd : R = 0 := by
        rw [HK.out, List.drop_eq_nil_of_le (by omega)]
        rfl
      have HD := Lib.hid hd
      clear hd HK
      go_wp2_with fail
      rw [HD.out]
      go_ret
      exact ⟨rfl, hwr⟩
theorem joint_nul {x y z : Nm} (h : jointE x y z ≠ 0) : jointN x y z = nul := by
  unfold jointE at h
  unfold jointN
  split
  · rename_i h1
    rw [if_pos h1] at h
    unfold fitE at h
    unfold fitN
    split
    · rename_i h2; rw [if_pos h2] at h; exact absurd rfl h
    · rfl
  · rfl
set_option maxHeartbeats 4000000 in
theorem total_any (xs : List Nm) (b off cap : Nat) (w : World) (hb : Row w b off xs) (hn : xs.length ≤ 100) :
    Calls Tryz.prog 71 #[.slice (some ⟨b, off, none⟩) xs.length cap] w (Gives (.tuple #[(sumR xs nul).1.v, .int .i64 (sumR xs nul).2]) w) := by
  have HA : Hid (∀ (s x : Nm) w, Calls Tryz.prog 45 #[s.v, x.v] w (Gives (.tuple #[(jointN s x (addN s x)).v, .int .i64 (jointE s x (addN s x))]) w)) := fun s x w => Add_any s.A s.B s.C s.D s.K x.A x.B x.C x.D x.K w
  obtain ⟨R, hR⟩ : ∃ R, R = sumR xs nul := ⟨_, rfl⟩
  rw [← hR]
  have HR : Hid (R = sumR (xs.drop 0) nul) := by rw [hR]; rfl
  have HB := Lib.hid hb
  have hlt0 := hb.1
  have HI : Hid (InSum w (w.heap.size + 1) nul ((w.alloc (.cells #[.int .i64 0, .int .i64 0, .int .i64 0, .int .i64 0, .int .i64 0] 23)).alloc (.cells #[.int .i64 0, .int .i64 0, .int .i64 0, .int .i64 0, .int .i64 0] 23))) := by
    refine ⟨(by repeat (first | with_reducible exact Below.refl _ _ | with_reducible refine below_al ?_ _ | with_reducible refine below_dN ?_ _ | with_reducible refine Below.drew ?_ | (with_reducible refine Below.setCell ?_ (by simp <;> omega) _) | (with_reducible refine below_via (by assumption) ?_))), box_al (box_new w 0 0 0 0 0 _) _, ?_, by omega⟩
    have h := box_new (w.alloc (.cells #[.int .i64 0, .int .i64 0, .int .i64 0, .int .i64 0, .int .i64 0] 23)) 0 0 0 0 0 23
    rw [World.size_alloc] at h
    exact h
  clear hb hR
  go_enter Tryz.func71, Tryz.ntmps71
  go_wp2_with fail
  go_loopw [12] (fun i wr => ∃ (k : Nat) (s : Nm), k ≤ xs.length ∧ i = .int .i64 k ∧ Hid (InSum w (w.heap.size + 1) s wr) ∧ Hid (R = sumR (xs.drop k) s)) (fun i _ => xs.length - (intOf i).toNat)
  case atStart => exact ⟨0, nul, by omega, rfl, HI.out, HR.out⟩
  case round =>
    obtain ⟨k, s, hk, rfl, HI, HK⟩ := hrel
    clear HR
    obtain ⟨z0, z1, z2, z3, z4⟩ := HI.out.2.1.cell
    obtain ⟨g0, g1, g2, g3, g4⟩ := HI.out.2.1.free
    obtain ⟨s0, s1, s2, s3, s4⟩ := HI.out.2.2.1.cell
    have hltz := HI.out.2.1.lt
    have hlts := HI.out.2.2.1.lt
    have hw := HI.out.1
    have hwle : w.heap.size ≤ w.heap.size := Nat.le_refl _
    dsimp only at z0 z1 z2 z3 z4
    by_cases hlt : k < xs.length
    · obtain ⟨x, hx⟩ : ∃ x, xs[k]? = some x := ⟨_, List.getElem?_eq_getElem hlt⟩
      obtain ⟨c0, c1, c2, c3, c4⟩ := (HB.out.below hw).2 k x hx
      have hbl : b < wr.heap.size := Nat.lt_of_lt_of_le hlt0 hw.size
      have hst := HK.out
      rw [sumR_drop s hx] at hst
      have HAx := Lib.hid (HA.out s x)
      have hjn := joint_nul (x := s) (y := x) (z := addN s x)
      generalize jointN s x (addN s x) = r at *
      generalize jointE s x (addN s x) = p at *
      by_cases hp : p = 0
      · rw [if_pos hp] at hst
        subst hp
        have HS := Lib.hid hst
        clear hst hjn hx HK
        go_wp2_with fail
        refine (HAx.out _).mono ?_
        rintro e w2 ⟨rfl, hb2⟩
        have HI2 := Lib.hid ((HI.out.call ((Below.refl _ _).alloc (Nat.le_refl _) _)).call hb2)
        clear z0 z1 z2 z3 z4 g0 g1 g2 g3 g4 s0 s1 s2 s3 s4 c0 c1 c2 c3 c4 hltz hlts hw hbl hb2 HI
        obtain ⟨s0, s1, s2, s3, s4⟩ := HI2.out.2.2.1.cell
        obtain ⟨f0, f1, f2, f3, f4⟩ := HI2.out.2.2.1.free
        have hlts := HI2.out.2.2.1.lt
        go_wp2_with fail
        have hin := (HI2.out.put r).call ((Below.refl _ _).alloc (Nat.le_refl _) (.cells #[.int .i64 r.A, .int .i64 r.B, .int .i64 r.C, .int .i64 r.D, .int .i64 r.K] 23))
        go_roundw
        case rel => exact ⟨k + 1, r, by omega, by go_num, hin, HS.out⟩
        case measure => simp [intOf]; omega
      · rw [if_neg hp, hjn hp] at hst
        have hrn := hjn hp
        subst hrn
        have HS := Lib.hid hst
        have hq : (p != 0) = true := bne_iff_ne.2 hp
        clear hst hjn hx HK hp
        go_wp2_with fail
        refine (HAx.out _).mono ?_
        rintro e w2 ⟨rfl, hb2⟩
        have HI2 := Lib.hid ((HI.out.call ((Below.refl _ _).alloc (Nat.le_refl _) _)).call hb2)
        clear z0 z1 z2 z3 z4 g0 g1 g2 g3 g4 s0 s1 s2 s3 s4 c0 c1 c2 c3 c4 hltz hlts hw hbl hb2 HI
        obtain ⟨z0, z1, z2, z3, z4⟩ := HI2.out.2.1.cell
        obtain ⟨g0, g1, g2, g3, g4⟩ := HI2.out.2.1.free
        have hltz := HI2.out.2.1.lt
        have hw := HI2.out.1
        dsimp only at z0 z1 z2 z3 z4
        go_wp2_with fail
        rw [HS.out]
        exact bodyPost_ret (v := .tuple #[nul.v, .int .i64 p]) (by simp [results, Tryz.results71, go_sem, z0, z1, z2, z3, z4, hltz]) rfl ⟨rfl, by first | exact below_al hw _ | exact below_al (((((hw.setCell (Nat.le_refl _) _).setCell (Nat.le_refl _) _).setCell (Nat.le_refl _) _).setCell (Nat.le_refl _) _).setCell (Nat.le_refl _) _) _⟩
    · have hre : R = (s, 0) := by
        rw [HK.out, List.drop_eq_nil_of_le (by omega)]
        rfl
      have HRE := Lib.hid hre
      clear hre HK
      go_wp2_with fail
      rw [HRE.out]
      exact bodyPost_ret (v := .tuple #[s.v, .int .i64 0]) (by simp [results, Tryz.results71, go_sem, z0, z1, z2, z3, z4]) rfl ⟨rfl, by first | exact hw | exact ((((hw.setCell (Nat.le_refl _) _).setCell (Nat.le_refl _) _).setCell (Nat.le_refl _) _).setCell (Nat.le_refl _) _).setCell (Nat.le_refl _) _⟩
end Go.Proofs.YtcdmcndjbajhlaaGreatDoor
namespace Go.Proofs.YtcdmcndjbajhlaaGreatDoor
open Go.RowKit

def cellsL : List Nm → List Value
  | [] => []
  | x :: l => .int .i64 x.A :: .int .i64 x.B :: .int .i64 x.C :: .int .i64 x.D :: .int .i64 x.K :: cellsL l
theorem cellsL_len : ∀ xs : List Nm, (cellsL xs).length = xs.length * 5
  | [] => rfl
  | x :: l => by simp only [cellsL, List.length_cons, cellsL_len l]; omega
theorem cellsL_one : ∀ (xs : List Nm) (v : Value), v ∈ cellsL xs → v.oneCell' = true
  | [], v, h => by cases h
  | x :: l, v, h => by
    simp only [cellsL, List.mem_cons] at h
    rcases h with rfl | rfl | rfl | rfl | rfl | h
    · rfl
    · rfl
    · rfl
    · rfl
    · rfl
    · exact cellsL_one l v h
theorem cellsL_at : ∀ (xs : List Nm) (i : Nat) (x : Nm), xs[i]? = some x →
    (cellsL xs)[i * 5]? = some (.int .i64 x.A) ∧ (cellsL xs)[i * 5 + 1]? = some (.int .i64 x.B) ∧ (cellsL xs)[i * 5 + 2]? = some (.int .i64 x.C) ∧ (cellsL xs)[i * 5 + 3]? = some (.int .i64 x.D) ∧ (cellsL xs)[i * 5 + 4]? = some (.int .i64 x.K)
  | [], i, x, h => by simp at h
  | y :: l, 0, x, h => by
    simp at h
    subst h
    simp [cellsL]
  | y :: l, i + 1, x, h => by
    have h' := cellsL_at l i x (by simpa using h)
    have e : ∀ r, (i + 1) * 5 + r = i * 5 + r + 5 := fun r => by omega
    have e0 := e 0
    rw [Nat.add_zero] at e0
    rw [e 1, e 2, e 3, e 4, e0]
    simpa [cellsL] using h'
theorem Row.tail {w : World} {b off : Nat} {x : Nm} {l : List Nm} (h : Row w b off (x :: l)) : Row w b (off + 5) l := by
  refine ⟨h.1, fun i y hy => ?_⟩
  have h' := h.2 (i + 1) y (by simpa using hy)
  rw [show off + (i + 1) * 5 = off + 5 + i * 5 by omega] at h'
  exact h'
theorem Row.cells {w : World} {b : Nat} : ∀ (xs : List Nm) (off : Nat), Row w b off xs → ∀ (j : Nat) (v : Value), (cellsL xs)[j]? = some v → w.cell? ⟨b, off + j, none⟩ = some v
  | [], off, h, j, v, hv => by simp [cellsL] at hv
  | x :: l, off, h, j, v, hv => by
    obtain ⟨h0, h1, h2, h3, h4⟩ := h.2 0 x rfl
    rw [Nat.zero_mul, Nat.add_zero] at h0 h1 h2 h3 h4
    match j with
    | 0 => simp [cellsL] at hv; subst hv; exact h0
    | 1 => simp [cellsL] at hv; subst hv; exact h1
    | 2 => simp [cellsL] at hv; subst hv; exact h2
    | 3 => simp [cellsL] at hv; subst hv; exact h3
    | 4 => simp [cellsL] at hv; subst hv; exact h4
    | j + 5 =>
      have h' := Row.cells l (off + 5) h.tail j v (by simpa [cellsL] using hv)
      rw [show off + (j + 5) = off + 5 + j by omega]
      exact h'
theorem row_of {w : World} {g T : Nat} {fz : Nat × Nat} {cur : Array Value} {xs : List Nm} (h : w.heap[g]? = some (.cells cur T fz)) (ht : cur.toList.take (xs.length * 5) = cellsL xs) : Row w g 0 xs := by
  refine ⟨(Array.getElem?_eq_some_iff.1 h).1, fun i x hx => ?_⟩
  obtain ⟨hk, _⟩ := List.getElem?_eq_some_iff.1 hx
  obtain ⟨h0, h1, h2, h3, h4⟩ := cellsL_at xs i x hx
  have hc : ∀ j v, j < xs.length * 5 → (cellsL xs)[j]? = some v → w.cell? ⟨g, j, none⟩ = some v := by
    intro j v hj hv
    rw [← ht, List.getElem?_take_of_lt hj] at hv
    simp only [World.cell?, h]
    simpa using hv
  rw [Nat.zero_add]
  exact ⟨hc _ _ (by omega) h0, hc _ _ (by omega) h1, hc _ _ (by omega) h2, hc _ _ (by omega) h3, hc _ _ (by omega) h4⟩
theorem run_copy_nums {P : Program} (w : World) (dT sT ty elem : TypeId) (g n dCap : Nat) (a : Addr) (sCap : Nat) (cur : Array Value) (t : TypeId) (cs : List Value)
    (hu : P.underlying dT = some (.slice elem)) (hs : (P.info? elem).map (·.size) = some 5)
    (hg : w.heap[g]? = some (.cells cur t (0, 0))) (hn : cs.length = n * 5)
    (hsrc : ∀ j v, cs[j]? = some v → w.cell? (a.add j) = some v) (hfit : cs.length ≤ cur.size) (h1 : ∀ v ∈ cs, v.oneCell' = true) :
    (Builtin.copy_ #[dT, sT] ty #[.slice (some ⟨g, 0, none⟩) n dCap, .slice (some a) n sCap]).run P w =
      .ok (goInt n) (w.setRow g (cur.toList.take 0 ++ cs ++ cur.toList.drop (0 + cs.length)).toArray) := by
  have hl := run_loadCells_list (P := P) w a cs hsrc
  have hst := run_storeCells_at P g 0 t cs 0 cur w hg (by simpa using hfit) h1
  cases hq : P.info? elem with
  | none => simp [hq] at hs
  | some i =>
    have hi : i.size = 5 := by simpa [hq] using hs
    rw [hn] at hl
    have hst2 : (storeCells ⟨g, 0, none⟩ cs).run P w = .ok () (w.setRow g (cs ++ List.drop cs.length cur.toList).toArray) := by simpa using hst
    simp [Builtin.copy_, run_underlying hu, Builtin.lenOf, Builtin.firstCells, sizeOf, typeInfo, hq, hi, hl, hst2]
theorem wpList_copy_nums {P : Program} {w : World} {ops : Array Oper} {rest : List Oper} {o : Oper} {a : Act} {Q : Exit → Act → World → Prop} (hgd : o.guard = none) (d s : Operand) (dT sT : TypeId)
    (ho : o.op = .call { callee := .builtin .copy, args := #[d, s], argTypes := #[dT, sT] }) (elem : TypeId) (hu : P.underlying dT = some (.slice elem)) (hsz : (P.info? elem).map (·.size) = some 5)
    (g n dCap : Nat) (ad : Addr) (sCap : Nat) (hd : a.eval d = .slice (some ⟨g, 0, none⟩) n dCap) (hs : a.eval s = .slice (some ad) n sCap)
    (cur : Array Value) (t : TypeId) (hg : w.heap[g]? = some (.cells cur t (0, 0))) (cs : List Value) (hn : cs.length = n * 5)
    (hsrc : ∀ j v, cs[j]? = some v → w.cell? (ad.add j) = some v) (hfit : cs.length = cur.size) (h1 : ∀ v ∈ cs, v.oneCell' = true)
    (h : wpList P ops Q rest (a.put o.dst (goInt n)) (w.setRow g cs.toArray)) : wpList P ops Q (o :: rest) a w := by
  refine wpList_plain hgd fun K hK => ?_
  have hrun := run_copy_nums (P := P) w dT sT o.type elem g n dCap ad sCap cur t cs hu hsz hg hn hsrc (by omega) h1
  have e : (cur.toList.take 0 ++ cs ++ cur.toList.drop (0 + cs.length)).toArray = cs.toArray := by
    rw [Nat.zero_add, List.drop_eq_nil_of_le (by rw [Array.length_toList]; omega)]
    simp
  rw [e] at hrun
  unfold Oper.wp
  simp [execOp, ho, resolve, invoke, builtin, hd, hs, hrun, Result.andThen]
  exact hK _ _ h
theorem own_cur {w : World} {base g n : Nat} {e : TypeId} {xs : List Value} (h : w.ownsRow base e 5 (.slice (some ⟨g, 0, none⟩) n n) n xs) : base ≤ g ∧ ∃ cur, w.heap[g]? = some (.cells cur e (0, 0)) ∧ cur.size = n * 5 := by
  obtain ⟨_, h | ⟨g', cap, cur, h1, h2, h3, h4, h5, h6, _⟩⟩ := h
  · cases h.1
  · cases h1
    exact ⟨h2, cur, h3, h6⟩
theorem add_at (b off j : Nat) : (⟨b, off, none⟩ : Addr).add j = ⟨b, off + j, none⟩ := by
  unfold Addr.add; split <;> simp_all
theorem info_num : (Tryz.prog.info? 23).map (fun i => (i.zero, i.size, i.bytes)) = some (some nul.v, 5, 40) := by kernel_rfl
theorem und_nums : Tryz.prog.underlying 25 = some (.slice 23) := by kernel_rfl
theorem copy_nums (w : World) (g n cap b off : Nat) (cur : Array Value) (cs : List Value) (hg : w.heap[g]? = some (.cells cur 23 (0, 0))) (hn : cs.length = n * 5) (hsz : cur.size = n * 5)
    (hsrc : ∀ j v, cs[j]? = some v → w.cell? ((⟨b, off, none⟩ : Addr).add j) = some v) (h1 : ∀ v ∈ cs, v.oneCell' = true) (ty : TypeId) :
    (Builtin.copy_ #[25, 25] ty #[.slice (some ⟨g, 0, none⟩) n n, .slice (some ⟨b, off, none⟩) n cap]).run Tryz.prog w = .ok (goInt n) (w.setRow g cs.toArray) := by
  have hrun := run_copy_nums (P := Tryz.prog) w 25 25 ty 23 g n n ⟨b, off, none⟩ cap cur 23 cs und_nums (by kernel_rfl) hg hn hsrc (by omega) h1
  have e : (cur.toList.take 0 ++ cs ++ cur.toList.drop (0 + cs.length)).toArray = cs.toArray := by
    rw [Nat.zero_add, List.drop_eq_nil_of_le (by rw [Array.length_toList]; omega)]
    simp
  rw [e] at hrun
  exact hrun
set_option maxHeartbeats 4000000 in
theorem Sum_any (xs : List Nm) (b off cap : Nat) (w : World) (hb : Row w b off xs) (hn : xs.length ≤ 100) :
    Calls Tryz.prog 28 #[.slice (some ⟨b, off, none⟩) xs.length cap] w (Gives (sumV xs) w) := by
  have HF : Hid (∀ w (g : Nat) cap, Row w g 0 xs → Calls Tryz.prog 70 #[.slice (some ⟨g, 0, none⟩) xs.length cap, .func (.func 15) #[] #[]] w (Gives (.int .i64 (chks xs)) w)) := fun w g cap h => first_any xs g 0 cap w h hn
  have HT : Hid (∀ w (g : Nat) cap, Row w g 0 xs → Calls Tryz.prog 71 #[.slice (some ⟨g, 0, none⟩) xs.length cap] w (Gives (.tuple #[(sumR xs nul).1.v, .int .i64 (sumR xs nul).2]) w)) := fun w g cap h => total_any xs g 0 cap w h hn
  obtain ⟨i0, hi, hz0, hz1, hz2⟩ := info_parts info_num
  obtain ⟨RV, hRV⟩ : ∃ RV, RV = sumV xs := ⟨_, rfl⟩
  rw [← hRV]
  have HRV := Lib.hid hRV
  clear hRV
  have HB := Lib.hid hb
  have hblt := hb.1
  clear hb
  go_enter Tryz.func28, Tryz.ntmps28
  have hsz5 : (Tryz.prog.info? 23).map (·.size) = some 5 := by kernel_rfl
  have HSRC : Hid (∀ w', Below w.heap.size w w' → ∀ (j : Nat) (v : Value), (cellsL xs)[j]? = some v → w'.cell? ((⟨b, off, none⟩ : Addr).add j) = some v) := fun w' hb j v hv => by
    rw [add_at]; exact Row.cells xs off (HB.out.below hb) j v hv
  have HBR : Hid (Box (w.alloc (.cells #[.int .i64 0, .int .i64 0, .int .i64 0, .int .i64 0, .int .i64 0] 23)) w.heap.size 23 nul) := box_new w 0 0 0 0 0 _
  obtain ⟨cs, hcs⟩ : ∃ cs, cs = cellsL xs := ⟨_, rfl⟩
  rw [← hcs] at HSRC
  have hcl : cs.length = xs.length * 5 := by rw [hcs]; exact cellsL_len xs
  have HC1 : Hid (∀ v ∈ cs, v.oneCell' = true) := by rw [hcs]; exact cellsL_one xs
  have HCS := Lib.hid hcs
  have HCL := Lib.hid hcl
  clear hcs hcl
  go_wp2_with (at_make; refine wpList_make_full _ rfl _ _ 25 rfl w.heap.size 23 i0 nul.v 5 und_nums hi hz0 hz1 .i64 .i64 _ _ xs.length rfl rfl rfl rfl (by rw [hz2]; omega) (by unfold maxLen; omega) (by simp) ?_; intro w0 hown0 hgrow0; obtain ⟨_, cur, hg0, hsz0⟩ := own_cur hown0; rw [World.size_alloc] at hg0; have hbw : Below w.heap.size w w0 := ((Below.refl _ _).alloc (Nat.le_refl _) _).grown hgrow0 (by simp) (fun k e => by cases e); have HBR0 : Hid (Box w0 w.heap.size 23 nul) := (by unfold Box; rw [hgrow0.block _ (by simp) (by simp)]; exact HBR.out); have hcopy := copy_nums w0 (w.heap.size + 1) xs.length cap b off cur cs hg0 HCL.out hsz0 (HSRC.out _ hbw) HC1.out; have HG0 := Lib.hid hg0; clear hown0 hgrow0 hg0)
  have hrow : Row (w0.setRow (w.heap.size + 1) cs.toArray) (w.heap.size + 1) 0 xs := by
    refine row_of (setRow_heap w0 _ _ _ _ _ HG0.out) ?_
    rw [HCS.out]
    show List.take (xs.length * 5) (cellsL xs) = _
    rw [← cellsL_len xs, List.take_length]
  have hbelow : Below w.heap.size w (w0.setRow (w.heap.size + 1) cs.toArray) := below_setRow hbw (by omega) _
  have hbox : Box (w0.setRow (w.heap.size + 1) cs.toArray) w.heap.size 23 nul := by
    unfold Box
    rw [setRow_other _ _ _ _ (by omega)]
    exact HBR0.out
  obtain ⟨V, hV⟩ : ∃ V, w0.setRow (w.heap.size + 1) cs.toArray = V := ⟨_, rfl⟩
  rw [hV] at hrow hbelow hbox ⊢
  have HROW := Lib.hid hrow
  have HBOX := Lib.hid hbox
  have hwle : w.heap.size ≤ w.heap.size := Nat.le_refl _
  clear hV hcopy hrow hbox HG0 HBR0 hbw hsz0 HCS HCL HC1 HSRC HBR hsz5 hi hz0 hz1 hz2
  refine (HF.out _ _ _ HROW.out).mono ?_
  rintro e w1 ⟨rfl, hb1⟩
  have hw1 := below_via hb1 hbelow
  have HROW1 := Lib.hid (HROW.out.below hb1)
  have HBOX1 := Lib.hid (HBOX.out.below hb1 HBOX.out.lt)
  clear HROW HBOX hb1 hbelow HF
  by_cases h : chks xs = 0
  · have hrv : RV = .tuple #[(sumR xs nul).1.v, .int .i64 (sumR xs nul).2] := by rw [HRV.out]; unfold sumV; rw [if_pos h]
    have HRR := Lib.hid hrv
    rw [h]
    clear hrv HRV
    generalize sumR xs nul = R at *
    clear h
    go_wp2_with fail
    refine (HT.out _ _ _ HROW1.out).mono ?_
    rintro e w2 ⟨rfl, hb2⟩
    have hw := below_via hb2 hw1
    have hbox2 := HBOX1.out.below hb2 HBOX1.out.lt
    obtain ⟨z0, z1, z2, z3, z4⟩ := hbox2.cell
    obtain ⟨g0, g1, g2, g3, g4⟩ := hbox2.free
    have hltz := hbox2.lt
    dsimp only at z0 z1 z2 z3 z4
    clear hbox2 HROW1 HBOX1 hb2 hw1 HT
    go_wp2_with fail
    rw [HRR.out]
    exact bodyPost_ret (v := .tuple #[R.1.v, .int .i64 R.2]) (by simp [results, Tryz.results28, go_sem, z0, z1, z2, z3, z4]) rfl ⟨rfl, by first | exact hw | exact ((((hw.setCell (Nat.le_refl _) _).setCell (Nat.le_refl _) _).setCell (Nat.le_refl _) _).setCell (Nat.le_refl _) _).setCell (Nat.le_refl _) _⟩
  · have hrv : RV = .tuple #[nul.v, .int .i64 (chks xs)] := by rw [HRV.out]; unfold sumV; rw [if_neg h]
    have HRR := Lib.hid hrv
    clear hrv HRV
    have h2 : (chks xs != 0) = true := bne_iff_ne.2 h
    generalize chks xs = q at *
    obtain ⟨z0, z1, z2, z3, z4⟩ := HBOX1.out.cell
    obtain ⟨g0, g1, g2, g3, g4⟩ := HBOX1.out.free
    have hltz := HBOX1.out.lt
    have hw := hw1
    dsimp only at z0 z1 z2 z3 z4
    clear h HROW1 HBOX1 hw1 HT
    go_wp2_with fail
    rw [HRR.out]
    exact bodyPost_ret (v := .tuple #[nul.v, .int .i64 q]) (by simp [results, Tryz.results28, go_sem, z0, z1, z2, z3, z4]) rfl ⟨rfl, by first | exact hw | exact ((((hw.setCell (Nat.le_refl _) _).setCell (Nat.le_refl _) _).setCell (Nat.le_refl _) _).setCell (Nat.le_refl _) _).setCell (Nat.le_refl _) _⟩
end Go.Proofs.YtcdmcndjbajhlaaGreatDoor
