
/- By which power of w two numbers differ. -/
import Derived.Test.YtcdmcndjbajhlaaGreatDoorJo
import Derived.Test.YtcdmcndjbajhlaaGreatDoorPw
import Derived.Sort.CutIn
import Derived.Stop.RegionWithIn
set_option linter.all false
set_option maxRecDepth 100000
namespace Go.Proofs.YtcdmcndjbajhlaaGreatDoor
open Go.RowKit Go.Shelf
attribute [local go_sem] Oper.semAt_some run_field_num

/-- The map behind a round. -/
def stepF (s : Nm) (l : List (Nm × Int)) (x : Nat) : List (Nm × Int) := if (lookN (mulN s (pw x)) l).isSome = true then l else l ++ [(mulN s (pw x), (x : Int))]
def firsts (s : Nm) (xs : List Nat) : List (Nm × Int) := xs.foldl (stepF s) []
theorem firsts_push (s : Nm) (xs : List Nat) (x : Nat) : firsts s (xs ++ [x]) = stepF s (firsts s xs) x := by simp [firsts, List.foldl_append]
def phaseN (r s : Nm) : Int × Int := if (lookN r (firsts s (List.range 8))).isSome = false ∨ r.K ≠ s.K then (0, 6) else ((lookN r (firsts s (List.range 8))).getD 0, 0)
/-- The map and the variable that holds it, beside what lay before. -/
def MapIs (wc : World) (l : List (Nm × Int)) (W : World) : Prop :=
  W.heap[wc.heap.size]? = some (.map (entsFrom 0 l).toArray l.length) ∧ W.heap[wc.heap.size + 1]? = some (.cells #[.map (some wc.heap.size)] 86 (0, 0)) ∧ Below wc.heap.size wc W
/-- v points to four coefficients, in memory that is new since W. -/
def TurnedAt (t : Nm) (W : World) (v : Value) (wx : World) : Prop :=
  ∃ bt, v = .pointer (some ⟨bt, 0, none⟩) ∧ (wx.cell? ⟨bt, 0, none⟩ = some (.int .i64 t.A) ∧ wx.cell? ⟨bt, 1, none⟩ = some (.int .i64 t.B) ∧ wx.cell? ⟨bt, 2, none⟩ = some (.int .i64 t.C) ∧ wx.cell? ⟨bt, 3, none⟩ = some (.int .i64 t.D)) ∧ bt < wx.heap.size ∧ Below W.heap.size W wx
/-- What a look-up has left. -/
def LookIs (v : Int) (o : Bool) (W : World) (x y : Value) (wx : World) : Prop := x = .int .i64 v ∧ y = .bool o ∧ Below W.heap.size W wx
theorem MapIs.grown {wc : World} {l : List (Nm × Int)} {A B : World} {row : Option Nat} (h : MapIs wc l A) (hg : A.grownBy B row) (hr : ∀ r, row = some r → wc.heap.size + 2 ≤ r) : MapIs wc l B := by
  obtain ⟨h1, h2, h3⟩ := h
  refine ⟨?_, ?_, h3.grown hg h3.size (fun k e => by have := hr k e; omega)⟩
  · rw [hg.block _ (Array.getElem?_eq_some_iff.1 h1).1 (fun e => by have := hr _ e.symm; omega)]; exact h1
  · rw [hg.block _ (Array.getElem?_eq_some_iff.1 h2).1 (fun e => by have := hr _ e.symm; omega)]; exact h2
theorem MapIs.below {wc : World} {l : List (Nm × Int)} {A B : World} {k : Nat} (h : MapIs wc l A) (hb : Below k A B) (hk : wc.heap.size + 2 ≤ k) (hA : A.heap.size = k) : MapIs wc l B := by
  subst hA
  obtain ⟨h1, h2, h3⟩ := h
  exact ⟨(hb.block _ (by omega)).trans h1, (hb.block _ (by omega)).trans h2, h3.trans ⟨hb.os, hb.tape, hb.output, hb.size, fun i hi => hb.block i (by omega)⟩⟩

set_option maxHeartbeats 8000000 in
theorem Phase_ok (A B C D K a b c d k : Int) (r s : Nm) (w : World) (hs : s.le 1073741824) (hsK : s.K = 0 ∨ 0 < s.K ∧ s.K ≤ 1000) (HC : Hid (∀ w, Calls Tryz.prog 78 #[nv A B C D K, nv a b c d k] w (Gives (.int .i64 0) w)))
    (HL1 : Hid (∀ w, Calls Tryz.prog 16 #[nv A B C D K] w (Gives r.v w))) (HL2 : Hid (∀ w, Calls Tryz.prog 16 #[nv a b c d k] w (Gives s.v w))) :
    Calls Tryz.prog 37 #[nv A B C D K, nv a b c d k] w (Gives (.tuple #[.int .i64 (phaseN r s).1, .int .i64 (phaseN r s).2]) w) := by
  have hmm := @run_makeMap Tryz.prog
  have HT : Hid (∀ (x : Nat) (w : World), Calls Tryz.prog 73 #[nv s.A s.B s.C s.D s.K, nv (pw x).A (pw x).B (pw x).C (pw x).D 0] w (Gives (mulN s (pw x)).v w)) := fun x w => by
    have h := times_any s.A s.B s.C s.D s.K (pw x).A (pw x).B (pw x).C (pw x).D (pw x).K 1073741824 1 w hs (pw_le x) (by omega) (by omega) (by rw [pw_K]; omega)
    rw [pw_K] at h
    have e : (mulN ⟨s.A, s.B, s.C, s.D, s.K⟩ ⟨(pw x).A, (pw x).B, (pw x).C, (pw x).D, 0⟩).v = (mulN s (pw x)).v := by
      simp [mulN, Nm.v, pw_K]
    rw [e] at h
    exact h
  clear hs hsK
  refine (callsIn_wide (n := 10)).1 ?_
  refine callsIn_of_wp_marks Tryz.func37 rfl trivial ?_ rfl
  refine wpIn_wide.2 ?_
  simp only [Tryz.ntmps37, List.size_toArray, List.length_cons, List.length_nil, Nat.reduceAdd, Nat.reduceSub, Array.replicate_succ, Array.replicate_zero, List.push_toArray, List.append_toArray, List.nil_append, List.cons_append]
  go_wp2_with fail
  refine (HC.out _).mono ?_
  rintro e w1 ⟨rfl, hb⟩
  have hw1 : Below w.heap.size w w1 := (by repeat (first | with_reducible exact Below.refl _ _ | with_reducible refine below_al ?_ _ | with_reducible refine below_dN ?_ _ | with_reducible refine Below.drew ?_ | (with_reducible refine Below.setCell ?_ (by simp <;> omega) _) | (with_reducible refine below_via (by assumption) ?_)))
  have bx : Box w1 w.heap.size 23 ⟨A, B, C, D, K⟩ := by
    have h := box_new w A B C D K 23
    first | exact h.below hb (by simp <;> omega) | exact (box_al h _).below hb (by simp <;> omega) | exact (box_al (box_al h _) _).below hb (by simp <;> omega) | exact (box_al (box_al (box_al h _) _) _).below hb (by simp <;> omega)
  have by_ : Box w1 (w.heap.size + 1) 23 ⟨a, b, c, d, k⟩ := by
    have h := box_new (w.alloc (.cells #[.int .i64 A, .int .i64 B, .int .i64 C, .int .i64 D, .int .i64 K] 23)) a b c d k 23
    simp only [World.size_alloc] at h
    first | exact h.below hb (by simp <;> omega) | exact (box_al h _).below hb (by simp <;> omega) | exact (box_al (box_al h _) _).below hb (by simp <;> omega) | exact (box_al (box_al (box_al h _) _) _).below hb (by simp <;> omega)
  obtain ⟨c0, c1, c2, c3, c4⟩ := bx.cell
  obtain ⟨d0, d1, d2, d3, d4⟩ := by_.cell
  have hlt := by_.lt
  have hlt0 := bx.lt
  have HBX := Lib.hid bx
  have HBY := Lib.hid by_
  clear bx by_
  dsimp only at c0 c1 c2 c3 c4 d0 d1 d2 d3 d4
  go_upto_region 4 with fail
  go_cut [7, 8] from 17 to 66 (fun p q wx => PQ r s w1 p q wx)
  case first =>
    go_region_held3 (fun w' => Below w1.heap.size w1 w' ∧ (∀ b o, b < w1.heap.size → w'.cell? ⟨b, o, none⟩ = w1.cell? ⟨b, o, none⟩)) ((exact (fun h => ⟨h, (bcell h).1⟩) (by repeat (first | with_reducible exact Below.refl _ _ | with_reducible refine below_al ?_ _ | with_reducible refine below_dN ?_ _ | with_reducible refine Below.drew ?_ | (with_reducible refine Below.setCell ?_ (by simp <;> omega) _) | (with_reducible refine below_via (by assumption) ?_))))) (first | (go_at_call 16; (with_reducible refine (HL1.out _).mono ?_); rintro e w2 ⟨rfl, hb2⟩; (try replace hb2 := below_undrew hb2); obtain ⟨hc2, hf2⟩ := bcell hb2; have hz2 := hb2.size; (try simp at hz2); have hz20 : w.heap.size < w2.heap.size := (by omega); have hz21 : w.heap.size + 1 < w2.heap.size := (by omega); (try have hz2a : w1.heap.size < w2.heap.size := (by omega)); (try have hz2b : w1.heap.size + 1 < w2.heap.size := (by omega))) | (go_at_call 16; (with_reducible refine (HL2.out _).mono ?_); rintro e w3 ⟨rfl, hb3⟩; (try replace hb3 := below_undrew hb3); obtain ⟨hc3, hf3⟩ := bcell hb3; have hz3 := hb3.size; (try simp at hz3); (try have hz3a : w1.heap.size < w3.heap.size := (by omega)); (try have hz3b : w1.heap.size + 1 < w3.heap.size := (by omega)); (try have hz3c : w2.heap.size < w3.heap.size := (by omega)); (try have hz3d : w2.heap.size + 1 < w3.heap.size := (by omega))))
    all_goals
      go_wp2_with fail
      go_meet
      refine ⟨_, _, rfl, rfl, ⟨?_, ?_, ?_, ?_, ?_⟩, ⟨?_, ?_, ?_, ?_, ?_⟩, ?_, ?_, (by repeat (first | with_reducible exact Below.refl _ _ | with_reducible refine below_al ?_ _ | with_reducible refine below_dN ?_ _ | with_reducible refine Below.drew ?_ | (with_reducible refine Below.setCell ?_ (by simp <;> omega) _) | (with_reducible refine below_via (by assumption) ?_)))⟩
    all_goals (try go_simp)
    all_goals (first | omega | (refine World.cell?_setCell_same' _ _ _ ?_; go_simp))
  case rest =>
    obtain ⟨bp, bq, rfl, rfl, ⟨p0, p1, p2, p3, p4⟩, ⟨q0, q1, q2, q3, q4⟩, hbp, hbq, hbx⟩ := hcut
    rename World => V
    go_wp2_with fail
    obtain ⟨W0, hW0⟩ : ∃ W0, (V.alloc (Obj.map #[] 0)).alloc (Obj.cells #[Value.map (some V.heap.size)] 86) = W0 := ⟨_, rfl⟩
    have hsz : W0.heap.size = V.heap.size + 2 := by rw [← hW0]; simp
    have hm0 : MapIs V (firsts s []) W0 := by
      rw [← hW0]
      refine ⟨(Below.heap_alloc _ _ _ (by simp)).trans (heap_alloc_new V _), ?_, (by repeat (first | with_reducible exact Below.refl _ _ | with_reducible refine below_al ?_ _ | with_reducible refine below_dN ?_ _ | with_reducible refine Below.drew ?_ | (with_reducible refine Below.setCell ?_ (by simp <;> omega) _) | (with_reducible refine below_via (by assumption) ?_)))⟩
      have := heap_alloc_new (V.alloc (Obj.map #[] 0)) (Obj.cells #[Value.map (some V.heap.size)] 86)
      simp only [World.size_alloc] at this
      exact this
    rw [hW0]
    clear hW0
    refine (wpIn_wide (n := 10)).1 ?_
    refine wpIn_rangeFunc_ownS rfl (by omega) (gf := 72) (lb := #[]) rfl trivial (enters_of (by kernel_rfl)) (powers_stops Fence.wide (10 - 1) trivial rfl (by omega) W0) (Below.refl _ _) (fun _ => rfl)
      (fun pre W => MapIs V (firsts s pre) W) (fun _ _ _ => False) ?hI ?hIx hm0
      (fun x W act => ∃ Bx, W0.heap.size ≤ Bx ∧ Box4 W Bx 44 (pw x).A (pw x).B (pw x).C (pw x).D ∧ act = { tmps := List.toArray (nv A B C D K :: nv a b c d k :: .pointer (some ⟨w.heap.size, 0, none⟩) :: .pointer (some ⟨w.heap.size + 1, 0, none⟩) :: .int .i64 0 :: .int .i64 0 :: .int .i64 0 :: .pointer (some ⟨bp, 0, none⟩) :: .pointer (some ⟨bq, 0, none⟩) :: .pointer (some ⟨V.heap.size + 1, 0, none⟩) :: .int .i64 x :: .pointer (some ⟨Bx, 0, none⟩) :: undef :: undef :: undef :: undef :: undef :: u17 :: u18 :: u19 :: u20 :: u21 :: u22 :: u23 :: u24 :: u25 :: u26 :: u27 :: u28 :: .map (some V.heap.size) :: .int .i64 x :: pwv x :: u32 :: u33 :: u34 :: u35 :: u36 :: u37 :: u38 :: u39 :: u40 :: u41 :: u42 :: u43 :: u44 :: u45 :: u46 :: u47 :: u48 :: u49 :: u50 :: u51 :: u52 :: u53 :: u54 :: u55 :: u56 :: u57 :: u58 :: u59 :: u60 :: u61 :: u62 :: u63 :: u64 :: u65 :: u66 :: []), defers := [] })
      ?assign ?body ?ha ?done ?stop
    case hI =>
      rintro s A B row h hg hr
      exact h.grown hg (fun k e => by have := hr k e; omega)
    case hIx => rintro c s A B row h hg hr; exact h
    case assign =>
      rintro l pre x W K h hK
      have h3 := h.2.1
      have hlt := (Array.getElem?_eq_some_iff.1 h3).1
      gi_wp2
      exact hK _ _ ⟨W.heap.size, by omega, heap_alloc_new _ _, rfl⟩ (h.grown (World.grownBy_alloc W _ none) (fun r e => by cases e)) ⟨by simp, fun k _ hk => Below.heap_alloc _ _ _ hk⟩
    case body =>
      rintro l pre x a2 W ⟨Bx, hBx, hB4, rfl⟩ h hlen
      obtain ⟨e0, e1, e2, e3⟩ := hB4.cell
      obtain ⟨hq, _⟩ := bcell h.2.2
      have g0 := (hq bq 0 hbq).trans q0
      have g1 := (hq bq 1 hbq).trans q1
      have g2 := (hq bq 2 hbq).trans q2
      have g3 := (hq bq 3 hbq).trans q3
      have g4 := (hq bq 4 hbq).trans q4
      have hW := (Array.getElem?_eq_some_iff.1 h.2.1).1
      have hbqW : bq < W.heap.size := by omega
      have hBxl := hB4.lt
      have H := Lib.hid h
      have HS := Lib.hid hBx
      clear h hB4 hq hBx
      gi_upto_region 8 with fail
      gi_cut [12] from 32 (fun v wx => TurnedAt (mulN s (pw x)) W v wx)
      case first =>
        gi_region_with (refine ⟨trivial, ?_⟩; first | (gi_at_call 67; refine (CallsIn.inRound l (callsIn_wide.2 (over_any _ _ _ _ _ _))).mono ?_; rintro e w2 ⟨rfl, hb2⟩; (try replace hb2 := below_undrew hb2); obtain ⟨hc2, hf2⟩ := bcell hb2; have hz2 := hb2.size; (try simp at hz2); have hz20 : bq < w2.heap.size := (by omega); have hz21 : Bx < w2.heap.size := (by omega); (try have hz22 : W.heap.size < w2.heap.size := (by omega))) | (gi_at_call 73; refine (CallsIn.inRound l (callsIn_wide.2 (HT.out _ _))).mono ?_; rintro e w3 ⟨rfl, hb3⟩; (try replace hb3 := below_undrew hb3); obtain ⟨hc3, hf3⟩ := bcell hb3; have hz3 := hb3.size; (try simp at hz3); (try have hz32 : W.heap.size < w3.heap.size := (by omega)); (try have hz33 : w2.heap.size < w3.heap.size := (by omega))) | (gi_at_call 18; refine (CallsIn.inRound l (callsIn_wide.2 (coefs_any _ _ _ _ _ _))).mono ?_; rintro e w4 ⟨rfl, hb4⟩; (try replace hb4 := below_undrew hb4); obtain ⟨hc4, hf4⟩ := bcell hb4; have hz4 := hb4.size; (try simp at hz4); (try have hz42 : W.heap.size < w4.heap.size := (by omega)); (try have hz43 : w2.heap.size < w4.heap.size := (by omega)); (try have hz44 : w3.heap.size < w4.heap.size := (by omega))))
        all_goals
          gi_wp2
          gi_meet
          refine ⟨_, rfl, ⟨?_, ?_, ?_, ?_⟩, ?_, (by repeat (first | with_reducible exact Below.refl _ _ | with_reducible refine below_al ?_ _ | with_reducible refine below_dN ?_ _ | with_reducible refine Below.drew ?_ | (with_reducible refine Below.setCell ?_ (by simp <;> omega) _) | (with_reducible refine below_via (by assumption) ?_)))⟩
        all_goals (try go_simp)
        all_goals (first | omega | (refine World.cell?_setCell_same' _ _ _ ?_; go_simp))
      case rest =>
        obtain ⟨bt, rfl, ⟨t0, t1, t2, t3⟩, hbt, hbw⟩ := hcut
        have hMw : MapIs V (firsts s pre) wc := H.out.below hbw (by omega) rfl
        obtain ⟨hm, hv, hVw⟩ := hMw
        have v0 : wc.cell? ⟨V.heap.size + 1, 0, none⟩ = some (.map (some V.heap.size)) := cell_of_one hv
        have hlk := run_lookup wc V.heap.size (mulN s (pw x)) (firsts s pre) _ hm
        unfold found2 at hlk
        dsimp only [kv] at hlk
        have hSF : SameFrom W0.heap.size W wc := sameFrom_below hbw
        cases hf : lookN (mulN s (pw x)) (firsts s pre) with
        | none =>
          rw [hf] at hlk
          have hst := run_store wc V.heap.size (mulN s (pw x)) x (firsts s pre) hm hf
          dsimp only [kv] at hst
          simp only [Option.getD_none, Option.isSome_none] at hlk
          have hVlt := (Array.getElem?_eq_some_iff.1 hm).1
          have HM := Lib.hid hm
          have HV := Lib.hid hv
          clear hm hv H
          gi_wp2
          refine ⟨⟨?_, ?_⟩, ?_, ?_, ?_⟩
          · have := hSF.1; simp; omega
          · intro i hi hl
            rw [World.putObj_heap_other (by omega)]
            exact hSF.2 i hi hl
          · rw [firsts_push, stepF, hf, if_neg (by simp)]
            have e := World.putObj_heap_same (w := wc) (o := Obj.map (entsFrom 0 (firsts s pre ++ [(mulN s (pw x), (x : Int))])).toArray (firsts s pre ++ [(mulN s (pw x), (x : Int))]).length) hVlt
            simpa using e
          · rw [World.putObj_heap_other (by omega)]
            exact HV.out
          · exact hVw.grown (grownBy_putObj' wc _ _) hVw.size (fun i e => by cases e; omega)
        | some n =>
          rw [hf] at hlk
          simp only [Option.getD_some, Option.isSome_some] at hlk
          have hVlt := (Array.getElem?_eq_some_iff.1 hm).1
          have HM := Lib.hid hm
          have HV := Lib.hid hv
          clear hm hv H
          gi_wp2
          refine ⟨hSF, ?_, HV.out, hVw⟩
          rw [firsts_push, stepF, hf, if_pos (by simp)]
          exact HM.out
    case ha =>
      rintro x W a l o hl ⟨Bx, h1, h2, h3⟩ ⟨c, hc⟩
      refine ⟨Bx, h1, ?_, h3⟩
      unfold Box4 at *
      rw [World.putObj_heap_other (fun e => by rw [e] at h2; rw [h2] at hc; cases hc)]
      exact h2
    case stop =>
      rintro D c pre W _ h hD hK
      exact h.elim
    case done =>
      rintro D xs W rfl h hD hK
      obtain ⟨hm, hv, hVw⟩ := h
      have v0 : W.cell? ⟨V.heap.size + 1, 0, none⟩ = some (.map (some V.heap.size)) := cell_of_one hv
      obtain ⟨hq, _⟩ := bcell hVw
      have m0 := (hq bp 0 hbp).trans p0
      have m1 := (hq bp 1 hbp).trans p1
      have m2 := (hq bp 2 hbp).trans p2
      have m3 := (hq bp 3 hbp).trans p3
      have m4 := (hq bp 4 hbp).trans p4
      have g4 := (hq bq 4 hbq).trans q4
      have hW := (Array.getElem?_eq_some_iff.1 hv).1
      have hDW := (Array.getElem?_eq_some_iff.1 hK).1
      have hbqW : bq < W.heap.size := by omega
      have hbpW : bp < W.heap.size := by omega
      have HM := Lib.hid hm
      have HK := Lib.hid hK
      clear hm hv hK hq
      obtain ⟨l0, hl0⟩ : ∃ l0, firsts s (List.range 8) = l0 := ⟨_, rfl⟩
      rw [hl0] at HM
      have HL0 := Lib.hid hl0
      clear hl0
      go_upto_region 12 with fail
      go_cut [15, 16] from 17 to 66 (fun v o wx => LookIs ((lookN r l0).getD 0) (lookN r l0).isSome W v o wx)
      case first =>
        go_region_held3 (fun w' => Below W.heap.size W w' ∧ (∀ b o, b < W.heap.size → w'.cell? ⟨b, o, none⟩ = W.cell? ⟨b, o, none⟩)) ((exact (fun h => ⟨h, (bcell h).1⟩) (by repeat (first | with_reducible exact Below.refl _ _ | with_reducible refine below_al ?_ _ | with_reducible refine below_dN ?_ _ | with_reducible refine Below.drew ?_ | (with_reducible refine Below.setCell ?_ (by simp <;> omega) _) | (with_reducible refine below_via (by assumption) ?_))))) (first | (go_at_call 18; refine (coefs_any _ _ _ _ _ _).mono ?_; rintro e w2 ⟨rfl, hb2⟩; (try replace hb2 := below_undrew hb2); obtain ⟨hc2, hf2⟩ := bcell hb2; have hz2 := hb2.size; (try simp at hz2); have hlk := run_lookup w2 V.heap.size r l0 _ ((hb2.block _ (by omega)).trans HM.out); unfold found2 at hlk; dsimp only [kv] at hlk; (try have hz2a : bp < w2.heap.size := (by omega)); (try have hz2b : V.heap.size + 1 < w2.heap.size := (by omega))))
        all_goals
          go_wp2
          go_meet
          exact ⟨rfl, rfl, (by repeat (first | with_reducible exact Below.refl _ _ | with_reducible refine below_al ?_ _ | with_reducible refine below_dN ?_ _ | with_reducible refine Below.drew ?_ | (with_reducible refine Below.setCell ?_ (by simp <;> omega) _) | (with_reducible refine below_via (by assumption) ?_)))⟩
      case rest =>
        obtain ⟨rfl, rfl, hbw⟩ := hcut
        obtain ⟨hc9, hf9⟩ := bcell hbw
        have hz9 := hbw.size
        have n4 := (hc9 bp 4 hbpW).trans m4
        have k4 := (hc9 bq 4 hbqW).trans g4
        have hbW : Below w.heap.size w wc := below_via hbw (below_via hVw (below_via hbx hw1))
        have hD9 : wc.heap[D]? = some (.deferred (some [])) := (hbw.block _ hDW).trans HK.out
        have hb9 := hbW.grown (grownBy_putObj' wc D (.deferred none)) hbW.size (fun k e => by cases e; have := hVw.size; have := hbx.size; have := hw1.size; omega)
        cases ho : (lookN r l0).isSome
        · have e1 : (phaseN r s) = (0, 6) := by unfold phaseN; rw [HL0.out, if_pos (.inl ho)]
          go_wp2
          refine ⟨by simp, .inl ⟨_, _, rfl, run_takeDeferred hD9, ?_⟩⟩
          rw [e1]
          exact ⟨_, by simp [results, Tryz.results37, go_sem], rfl, hb9⟩
        · by_cases hk : r.K = s.K
          · have hkb : (r.K != s.K) = false := by simp [hk]
            have e1 : (phaseN r s) = ((lookN r l0).getD 0, 0) := by unfold phaseN; rw [HL0.out, if_neg (by simp [ho, hk])]
            go_wp2
            refine ⟨by simp, .inl ⟨_, _, rfl, run_takeDeferred hD9, ?_⟩⟩
            rw [e1]
            exact ⟨_, by simp [results, Tryz.results37, go_sem], rfl, hb9⟩
          · have hkb : (r.K != s.K) = true := by simp [hk]
            have e1 : (phaseN r s) = (0, 6) := by unfold phaseN; rw [HL0.out, if_pos (.inr hk)]
            go_wp2
            refine ⟨by simp, .inl ⟨_, _, rfl, run_takeDeferred hD9, ?_⟩⟩
            rw [e1]
            exact ⟨_, by simp [results, Tryz.results37, go_sem], rfl, hb9⟩

set_option maxHeartbeats 2000000 in
theorem Phase_bad (A B C D K a b c d k : Int) (w : World) (hq : (chk2 ⟨A, B, C, D, K⟩ ⟨a, b, c, d, k⟩ != 0) = true) :
    Calls Tryz.prog 37 #[nv A B C D K, nv a b c d k] w (Gives (.tuple #[.int .i64 0, .int .i64 (chk2 ⟨A, B, C, D, K⟩ ⟨a, b, c, d, k⟩)]) w) := by
  have HC2 : Hid (∀ w, Calls Tryz.prog 78 #[nv A B C D K, nv a b c d k] w (Gives (.int .i64 (chk2 ⟨A, B, C, D, K⟩ ⟨a, b, c, d, k⟩)) w)) := fun w => checked_any A B C D K a b c d k w
  generalize chk2 ⟨A, B, C, D, K⟩ ⟨a, b, c, d, k⟩ = q at *
  go_enter Tryz.func37, Tryz.ntmps37
  go_wp2_with fail
  refine (HC2.out _).mono ?_
  rintro e w1 ⟨rfl, hb⟩
  obtain ⟨hc, hf⟩ := bcell hb
  go_wp2_with fail
  go_ret2
  exact ⟨rfl, (by repeat (first | with_reducible exact Below.refl _ _ | with_reducible refine below_al ?_ _ | with_reducible refine below_dN ?_ _ | with_reducible refine Below.drew ?_ | (with_reducible refine Below.setCell ?_ (by simp <;> omega) _) | (with_reducible refine below_via (by assumption) ?_)))⟩
theorem least_inb {x : Nm} {m : Int} (h0 : 0 ≤ m) (h : x.inb m = true) : x.least.inb m = true := by
  unfold Nm.least
  split
  · simp [Nm.inb, inb]; omega
  · exact form_in _ _ h
theorem least_K {x : Nm} (h : 0 ≤ x.K) : 0 ≤ x.least.K ∧ x.least.K ≤ x.K := by
  unfold Nm.least
  split
  · exact ⟨by show (0 : Int) ≤ 0; omega, h⟩
  · exact form_K _ _ (by omega)
theorem Phase_any (A B C D K a b c d k : Int) (w : World) :
    Calls Tryz.prog 37 #[nv A B C D K, nv a b c d k] w (Gives (.tuple #[.int .i64 (if chk2 ⟨A, B, C, D, K⟩ ⟨a, b, c, d, k⟩ = 0 then (phaseN (Nm.least ⟨A, B, C, D, K⟩) (Nm.least ⟨a, b, c, d, k⟩)).1 else 0),
      .int .i64 (if chk2 ⟨A, B, C, D, K⟩ ⟨a, b, c, d, k⟩ = 0 then (phaseN (Nm.least ⟨A, B, C, D, K⟩) (Nm.least ⟨a, b, c, d, k⟩)).2 else chk2 ⟨A, B, C, D, K⟩ ⟨a, b, c, d, k⟩)]) w) := by
  by_cases h : chk2 ⟨A, B, C, D, K⟩ ⟨a, b, c, d, k⟩ = 0
  · rw [if_pos h, if_pos h]
    obtain ⟨h1, h2⟩ := chk2_ok h
    have hk := chk_ok (A := a) (B := b) (C := c) (D := d) (K := k) h2
    have hin : (Nm.least ⟨a, b, c, d, k⟩).inb 1073741824 = true := least_inb (by omega) (by simp [Nm.inb, inb]; omega)
    have hK := least_K (x := ⟨a, b, c, d, k⟩) (by show 0 ≤ k; omega)
    have hK2 : (Nm.least ⟨a, b, c, d, k⟩).K ≤ k := hK.2
    exact Phase_ok A B C D K a b c d k _ _ w (by simpa [Nm.inb, inb, Nm.le, and_assoc] using hin) (by omega) (checked_zero h) (right_least h1) (right_least h2)
  · rw [if_neg h, if_neg h]
    exact Phase_bad A B C D K a b c d k w (bne_iff_ne.2 h)
end Go.Proofs.YtcdmcndjbajhlaaGreatDoor
