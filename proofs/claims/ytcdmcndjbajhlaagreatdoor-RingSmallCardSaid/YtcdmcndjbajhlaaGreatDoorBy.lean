
/- The contract of ring.working.by: dividing. -/
import Derived.Test.YtcdmcndjbajhlaaGreatDoorJo
import Derived.Deep.CutBlock
import Derived.Deep.LoopGhost
import Derived.Handy
set_option linter.all false
set_option maxRecDepth 100000
namespace Go.Proofs.YtcdmcndjbajhlaaGreatDoor
open Go.RowKit
attribute [local go_sem] run_eql_arr4 run_field_num

/-- A pointer to a number in memory that is new since w1. -/
def P1 (r : Nm) (w1 : World) (p : Value) (wx : World) : Prop :=
  ∃ bp, p = .pointer (some ⟨bp, 0, none⟩) ∧ (wx.cell? ⟨bp, 0, none⟩ = some (.int .i64 r.A) ∧ wx.cell? ⟨bp, 1, none⟩ = some (.int .i64 r.B) ∧ wx.cell? ⟨bp, 2, none⟩ = some (.int .i64 r.C) ∧ wx.cell? ⟨bp, 3, none⟩ = some (.int .i64 r.D) ∧ wx.cell? ⟨bp, 4, none⟩ = some (.int .i64 r.K)) ∧ bp < wx.heap.size ∧ Below w1.heap.size w1 wx

def noneV : Value := .tuple #[nul.v, .bool false]
def divV (ab be : Nm) (o t : Int) : Value :=
  if ab.A.tmod o = 0 ∧ ab.B.tmod o = 0 ∧ ab.C.tmod o = 0 ∧ ab.D.tmod o = 0 then .tuple #[nv (ab.A.tdiv o) (ab.B.tdiv o) (ab.C.tdiv o) (ab.D.tdiv o) (ab.K - be.K + 2 * t), .bool true] else noneV
/-- What by returns. -/
def byV (ab be : Nm) : Value := if be.A = 0 then noneV else divV ab be (strip 64 be.A 0).1 (strip 64 be.A 0).2

set_option maxHeartbeats 8000000 in
theorem by_core (A B C D K a b c d k : Int) (nn jj tt ee ab be : Nm) (w : World)
    (HN : Hid (∀ w, Calls Tryz.prog 77 #[nv a b c d k] w (Gives nn.v w)))
    (HJ : Hid (∀ w, Calls Tryz.prog 93 #[nv a b c d k] w (Gives jj.v w)))
    (HT1 : Hid (∀ w, Calls Tryz.prog 73 #[nv A B C D K, nv jj.A jj.B jj.C jj.D jj.K] w (Gives tt.v w)))
    (HD : Hid (∀ w, Calls Tryz.prog 76 #[nv nn.A nn.B nn.C nn.D nn.K] w (Gives ee.v w)))
    (HT2 : Hid (∀ w, Calls Tryz.prog 73 #[nv tt.A tt.B tt.C tt.D tt.K, nv ee.A ee.B ee.C ee.D ee.K] w (Gives ab.v w)))
    (HT3 : Hid (∀ w, Calls Tryz.prog 73 #[nv nn.A nn.B nn.C nn.D nn.K, nv ee.A ee.B ee.C ee.D ee.K] w (Gives be.v w))) (hbe : 0 ≤ be.A ∧ be.A ≤ 18014398509481984) (hab : ab.le 18014398509481984) (hKa : -1000 ≤ ab.K ∧ ab.K ≤ 1000) (hKb : -1000 ≤ be.K ∧ be.K ≤ 1000) :
    Calls Tryz.prog 81 #[nv A B C D K, nv a b c d k] w (Gives (byV ab be) w) := by
  obtain ⟨R, HR⟩ : ∃ R, Hid (R = byV ab be) := ⟨_, rfl⟩
  rw [show byV ab be = R from HR.out.symm]
  go_enter Tryz.func81, Tryz.ntmps81
  go_wp2_with fail
  refine (HN.out _).mono ?_
  rintro e w1 ⟨rfl, hb⟩
  have hw1 : Below w.heap.size w w1 := (by repeat (first | with_reducible exact Below.refl _ _ | with_reducible refine below_al ?_ _ | with_reducible refine below_dN ?_ _ | with_reducible refine Below.drew ?_ | (with_reducible refine Below.setCell ?_ (by simp <;> omega) _) | (with_reducible refine below_via (by assumption) ?_)))
  have b0 : Box w1 w.heap.size 40 ⟨A, B, C, D, K⟩ := (box_al (box_al (box_new w _ _ _ _ _ _) _) _).below hb (by simp; omega)
  have b1 : Box w1 (w.heap.size + 1) 40 ⟨a, b, c, d, k⟩ := by
    have h := box_new (w.alloc (.cells #[.int .i64 A, .int .i64 B, .int .i64 C, .int .i64 D, .int .i64 K] 40)) a b c d k 40
    simp only [World.size_alloc] at h
    exact (box_al h _).below hb (by simp)
  have b2 : Box w1 (w.heap.size + 1 + 1) 40 nul := by
    have h := box_new ((w.alloc (.cells #[.int .i64 A, .int .i64 B, .int .i64 C, .int .i64 D, .int .i64 K] 40)).alloc (.cells #[.int .i64 a, .int .i64 b, .int .i64 c, .int .i64 d, .int .i64 k] 40)) 0 0 0 0 0 40
    simp only [World.size_alloc] at h
    exact h.below hb (by simp)
  clear hb
  have hlt0 := b0.lt
  have hlt1 := b1.lt
  have hlt2 := b2.lt
  obtain ⟨c0, c1, c2, c3, c4⟩ := b0.cell
  obtain ⟨d0, d1, d2, d3, d4⟩ := b1.cell
  have HB2 := Lib.hid b2
  clear b0 b1 b2
  dsimp only at c0 c1 c2 c3 c4 d0 d1 d2 d3 d4
  go_upto_region 2 with fail
  obtain ⟨W2, hW2⟩ : ∃ W2, w1.alloc (.cells #[.int .i64 nn.A, .int .i64 nn.B, .int .i64 nn.C, .int .i64 nn.D, .int .i64 nn.K] 40) = W2 := ⟨_, rfl⟩
  have hb12 : Below w1.heap.size w1 W2 := by rw [← hW2]; exact below_al (Below.refl _ _) _
  have bn : Box W2 w1.heap.size 40 nn := by rw [← hW2]; exact box_new _ _ _ _ _ _ _
  rw [hW2]
  clear hW2
  obtain ⟨hc12, hf12⟩ := bcell hb12
  have hz12 := hb12.size
  have hm0 : w.heap.size < W2.heap.size := by omega
  have hm1 : w.heap.size + 1 < W2.heap.size := by omega
  have hm2 := bn.lt
  obtain ⟨n0, n1, n2, n3, n4⟩ := bn.cell
  clear bn
  go_upto_region 2 with fail
  go_cut [7] (fun p wx => P1 ab W2 p wx)
  case first =>
    go_region_held3 (fun w' => Below W2.heap.size W2 w' ∧ (∀ b o, b < W2.heap.size → w'.cell? ⟨b, o, none⟩ = W2.cell? ⟨b, o, none⟩)) ((exact (fun h => ⟨h, (bcell h).1⟩) (by repeat (first | with_reducible exact Below.refl _ _ | with_reducible refine below_al ?_ _ | with_reducible refine below_dN ?_ _ | with_reducible refine Below.drew ?_ | (with_reducible refine Below.setCell ?_ (by simp <;> omega) _) | (with_reducible refine below_via (by assumption) ?_))))) (first | (go_at_call 93; (with_reducible refine (HJ.out _).mono ?_); rintro e w3 ⟨rfl, hw3⟩; (try replace hw3 := below_undrew hw3); obtain ⟨hcw3, hfw3⟩ := bcell hw3; have hzw3 := hw3.size; (try simp at hzw3); (try have hzw30 : w.heap.size < w3.heap.size := (by omega)); (try have hzw31 : w.heap.size + 1 < w3.heap.size := (by omega)); (try have hzw32 : w1.heap.size < w3.heap.size := (by omega)); (try have hzw33 : W2.heap.size < w3.heap.size := (by omega))) | (go_at_call 73; (with_reducible refine (HT1.out _).mono ?_); rintro e w4 ⟨rfl, hw4⟩; (try replace hw4 := below_undrew hw4); obtain ⟨hcw4, hfw4⟩ := bcell hw4; have hzw4 := hw4.size; (try simp at hzw4); (try have hqw4w3 : w3.heap.size < w4.heap.size := (by omega)); (try have hzw40 : w.heap.size < w4.heap.size := (by omega)); (try have hzw41 : w.heap.size + 1 < w4.heap.size := (by omega)); (try have hzw42 : w1.heap.size < w4.heap.size := (by omega)); (try have hzw43 : W2.heap.size < w4.heap.size := (by omega))) | (go_at_call 76; (with_reducible refine (HD.out _).mono ?_); rintro e w5 ⟨rfl, hw5⟩; (try replace hw5 := below_undrew hw5); obtain ⟨hcw5, hfw5⟩ := bcell hw5; have hzw5 := hw5.size; (try simp at hzw5); (try have hqw5w3 : w3.heap.size < w5.heap.size := (by omega)); (try have hqw5w4 : w4.heap.size < w5.heap.size := (by omega)); (try have hzw50 : w.heap.size < w5.heap.size := (by omega)); (try have hzw51 : w.heap.size + 1 < w5.heap.size := (by omega)); (try have hzw52 : w1.heap.size < w5.heap.size := (by omega)); (try have hzw53 : W2.heap.size < w5.heap.size := (by omega))) | (go_at_call 73; (with_reducible refine (HT2.out _).mono ?_); rintro e w6 ⟨rfl, hw6⟩; (try replace hw6 := below_undrew hw6); obtain ⟨hcw6, hfw6⟩ := bcell hw6; have hzw6 := hw6.size; (try simp at hzw6); (try have hqw6w3 : w3.heap.size < w6.heap.size := (by omega)); (try have hqw6w4 : w4.heap.size < w6.heap.size := (by omega)); (try have hqw6w5 : w5.heap.size < w6.heap.size := (by omega)); (try have hzw60 : w.heap.size < w6.heap.size := (by omega)); (try have hzw61 : w.heap.size + 1 < w6.heap.size := (by omega)); (try have hzw62 : w1.heap.size < w6.heap.size := (by omega)); (try have hzw63 : W2.heap.size < w6.heap.size := (by omega))))
    all_goals
      go_wp2_with fail
      go_meet
      refine ⟨_, rfl, ⟨?_, ?_, ?_, ?_, ?_⟩, ?_, (by repeat (first | with_reducible exact Below.refl _ _ | with_reducible refine below_al ?_ _ | with_reducible refine below_dN ?_ _ | with_reducible refine Below.drew ?_ | (with_reducible refine Below.setCell ?_ (by simp <;> omega) _) | (with_reducible refine below_via (by assumption) ?_)))⟩
    all_goals (try go_simp)
    all_goals (first | omega | (refine World.cell?_setCell_same' _ _ _ ?_; go_simp))
  case rest =>
    obtain ⟨pa, rfl, ⟨a0, a1, a2, a3, a4⟩, hpa, hb23⟩ := hcut
    obtain ⟨hc23, hf23⟩ := bcell hb23
    have hz23 := hb23.size
    have hk2 : w1.heap.size < wc.heap.size := by omega
    obtain ⟨W3, hW3⟩ : ∃ W3, W3 = wc := ⟨_, rfl⟩
    subst hW3
    go_upto_region 3 with fail
    go_cut [8] (fun p wx => P1 be W3 p wx)
    case first =>
      go_region_held3 (fun w' => Below W3.heap.size W3 w' ∧ (∀ b o, b < W3.heap.size → w'.cell? ⟨b, o, none⟩ = W3.cell? ⟨b, o, none⟩)) ((exact (fun h => ⟨h, (bcell h).1⟩) (by repeat (first | with_reducible exact Below.refl _ _ | with_reducible refine below_al ?_ _ | with_reducible refine below_dN ?_ _ | with_reducible refine Below.drew ?_ | (with_reducible refine Below.setCell ?_ (by simp <;> omega) _) | (with_reducible refine below_via (by assumption) ?_))))) (first | (go_at_call 76; (with_reducible refine (HD.out _).mono ?_); rintro e w3 ⟨rfl, hw3⟩; (try replace hw3 := below_undrew hw3); obtain ⟨hcw3, hfw3⟩ := bcell hw3; have hzw3 := hw3.size; (try simp at hzw3); (try have hzw30 : w1.heap.size < w3.heap.size := (by omega)); (try have hzw31 : W3.heap.size < w3.heap.size := (by omega))) | (go_at_call 73; (with_reducible refine (HT3.out _).mono ?_); rintro e w4 ⟨rfl, hw4⟩; (try replace hw4 := below_undrew hw4); obtain ⟨hcw4, hfw4⟩ := bcell hw4; have hzw4 := hw4.size; (try simp at hzw4); (try have hqw4w3 : w3.heap.size < w4.heap.size := (by omega)); (try have hzw40 : w1.heap.size < w4.heap.size := (by omega)); (try have hzw41 : W3.heap.size < w4.heap.size := (by omega))))
      all_goals
        go_wp2_with fail
        go_meet
        refine ⟨_, rfl, ⟨?_, ?_, ?_, ?_, ?_⟩, ?_, (by repeat (first | with_reducible exact Below.refl _ _ | with_reducible refine below_al ?_ _ | with_reducible refine below_dN ?_ _ | with_reducible refine Below.drew ?_ | (with_reducible refine Below.setCell ?_ (by simp <;> omega) _) | (with_reducible refine below_via (by assumption) ?_)))⟩
      all_goals (try go_simp)
      all_goals (first | omega | (refine World.cell?_setCell_same' _ _ _ ?_; go_simp))
    case rest =>
      obtain ⟨pb, rfl, ⟨e0, e1, e2, e3, e4⟩, hpb, hb34⟩ := hcut
      obtain ⟨hc34, hf34⟩ := bcell hb34
      have hz34 := hb34.size
      have hm30 : w.heap.size + 1 + 1 < W3.heap.size := by omega
      have hm32 : w.heap.size + 1 + 1 < W2.heap.size := by omega
      have b2 := ((HB2.out.below hb12 hlt2).below hb23 hm32).below hb34 hm30
      have HB3 := Lib.hid b2
      clear b2
      obtain ⟨z0, z1, z2, z3, z4⟩ := HB2.out.cell
      obtain ⟨f0, f1, f2, f3, f4⟩ := HB2.out.free
      dsimp only at z0 z1 z2 z3 z4
      by_cases hzero : be.A = 0
      · have hz0 : (be.A == 0) = true := beq_iff_eq.2 hzero
        have HV : Hid (byV ab be = noneV) := by unfold byV; rw [if_pos hzero]; rfl
        clear hzero
        go_wp2_with fail
        exact bodyPost_ret (v := .tuple #[nul.v, .bool false]) (by simp [results, Tryz.results81, go_sem, hc34, hc23, hc12, hm30, hm32, hlt2, z0, z1, z2, z3, z4]) rfl ⟨by rw [HR.out, HV.out]; rfl, (by repeat (first | with_reducible exact Below.refl _ _ | with_reducible refine below_al ?_ _ | with_reducible refine below_dN ?_ _ | with_reducible refine Below.drew ?_ | (with_reducible refine Below.setCell ?_ (by simp <;> omega) _) | (with_reducible refine below_via (by assumption) ?_)))⟩
      · have hz0 : (be.A == 0) = false := beq_eq_false_iff_ne.2 hzero
        have HV : Hid (byV ab be = divV ab be (strip 64 be.A 0).1 (strip 64 be.A 0).2) := by unfold byV; rw [if_neg hzero]; rfl
        go_upto_block 0 with fail
        go_cut [9, 10] (fun o t wx => ∃ ov tv : Int, o = .int .i64 ov ∧ t = .int .i64 tv ∧ Hid (strip 64 be.A 0 = (ov, tv)) ∧ 0 < ov ∧ ov ≤ 18014398509481984 ∧ 0 ≤ tv ∧ tv ≤ 64 ∧ wx = wc)
        case first =>
          go_wp2_with fail
          go_loop [34, 9, 10] (fun i o t => ∃ (n : Nat) (ov tv : Int), n ≤ 64 ∧ i = .int .i64 n ∧ o = .int .i64 ov ∧ t = .int .i64 tv ∧ Hid (strip (64 - n) ov tv = strip 64 be.A 0) ∧ 0 < ov ∧ ov ≤ 18014398509481984 ∧ 0 ≤ tv ∧ tv ≤ n) (fun i _ _ => 64 - (intOf i).toNat)
          case atStart => exact ⟨0, be.A, 0, by omega, rfl, rfl, rfl, rfl, by omega, hbe.2, by omega, by omega⟩
          case round =>
            obtain ⟨n, ov, tv, hn, rfl, rfl, rfl, HS, ho1, ho2, ht1, ht2⟩ := hrel
            by_cases hlt : (n : Int) < 64
            · have hn1 : 64 - n = (64 - (n + 1)) + 1 := by omega
              by_cases hev : ov % 2 = 0
              · have HS' : Hid (strip (64 - (n + 1)) (ov / 2) (tv + 1) = strip 64 be.A 0) := by
                  have h := HS.out
                  rw [hn1, strip, if_pos hev] at h
                  exact h
                have hb2 : (ov % 2 != 0) = false := by rw [hev]; rfl
                have hq1 : 0 < ov / 2 := by omega
                clear hev hn1
                go_wp2
                go_round
                case rel => exact ⟨n + 1, ov / 2, tv + 1, by omega, by go_num, rfl, rfl, HS', hq1, by omega, by omega, by omega⟩
                case measure => simp [intOf]; omega
              · have HS' : Hid (strip 64 be.A 0 = (ov, tv)) := by
                  have h := HS.out
                  rw [hn1, strip, if_neg hev] at h
                  exact h.symm
                have hb2 : (ov % 2 != 0) = true := bne_iff_ne.2 hev
                clear hev hn1
                go_wp2
                go_meet
                exact ⟨ov, tv, rfl, rfl, HS', ho1, ho2, ht1, by omega, rfl⟩
            · have hn1 : 64 - n = 0 := by omega
              have HS' : Hid (strip 64 be.A 0 = (ov, tv)) := by
                have h := HS.out
                rw [hn1, strip] at h
                exact h.symm
              clear hn1
              go_wp2
              go_meet
              exact ⟨ov, tv, rfl, rfl, HS', ho1, ho2, ht1, by omega, rfl⟩
        case rest =>
          obtain ⟨ov, tv, rfl, rfl, HS, ho1, ho2, ht1, ht2, rfl⟩ := hcut
          have HRS : Hid (R = divV ab be ov tv) := by rw [HR.out, HV.out, HS.out]; exact (rfl : divV ab be ov tv = divV ab be ov tv)
          have hov : ov ≠ 0 := by omega
          obtain ⟨⟨ab1, ab2⟩, ⟨ab3, ab4⟩, ⟨ab5, ab6⟩, ⟨ab7, ab8⟩⟩ := hab
          by_cases r0 : ab.A.tmod ov = 0
          · have q0 : (ab.A.tmod ov != 0) = false := by rw [r0]; rfl
            by_cases r1 : ab.B.tmod ov = 0
            · have q1 : (ab.B.tmod ov != 0) = false := by rw [r1]; rfl
              by_cases r2 : ab.C.tmod ov = 0
              · have q2 : (ab.C.tmod ov != 0) = false := by rw [r2]; rfl
                by_cases r3 : ab.D.tmod ov = 0
                · have q3 : (ab.D.tmod ov != 0) = false := by rw [r3]; rfl
                  have HV2 : Hid (R = .tuple #[nv (ab.A.tdiv ov) (ab.B.tdiv ov) (ab.C.tdiv ov) (ab.D.tdiv ov) (ab.K - be.K + 2 * tv), .bool true]) := HRS.out.trans (if_pos ⟨r0, r1, r2, r3⟩)
                  clear r0 r1 r2 r3
                  go_wp2_with fail
                  refine (coefs_any _ _ _ _ _ _).mono ?_
                  rintro e w7 ⟨rfl, hb7⟩
                  obtain ⟨hc7, hf7⟩ := bcell hb7
                  have hz7 := hb7.size
                  have hy0 : pa < wc.heap.size := by omega
                  have hy1 : pa < w7.heap.size := by omega
                  have hy2 : pb < w7.heap.size := by omega
                  have hy3 : w.heap.size + 1 + 1 < wc.heap.size := by omega
                  have hy4 : w.heap.size + 1 + 1 < w7.heap.size := by omega
                  have hy6 : w.heap.size + 1 < w7.heap.size := by omega
                  have hy7 : w.heap.size < w7.heap.size := by omega
                  go_wp2_with fail
                  refine wp_loop_rounds 5 ?_
                  repeat any_goals (rw [rounds_succ]; go_wp2_with fail)
                  refine (over_any _ _ _ _ _ _).mono ?_
                  rintro e w8 ⟨rfl, hb8⟩
                  obtain ⟨hc8, hf8⟩ := bcell hb8
                  have hy5 : w.heap.size + 1 + 1 < w8.heap.size := by have := hb8.size; simp at this; omega
                  go_wp2_with fail
                  exact bodyPost_ret (v := .tuple #[nv (ab.A.tdiv ov) (ab.B.tdiv ov) (ab.C.tdiv ov) (ab.D.tdiv ov) (ab.K - be.K + 2 * tv), .bool true]) (by simp [results, Tryz.results81, go_sem, hc8, hc7, hc34, hc23, hc12, hm30, hm32, hlt2, hy3, hy4, hy5, hy6, hy7, z0, z1, z2, z3, z4]) rfl ⟨by rw [HV2.out], (by repeat (first | with_reducible exact Below.refl _ _ | with_reducible refine below_al ?_ _ | with_reducible refine below_dN ?_ _ | with_reducible refine Below.drew ?_ | (with_reducible refine Below.setCell ?_ (by simp <;> omega) _) | (with_reducible refine below_via (by assumption) ?_)))⟩
                · have q3 : (ab.D.tmod ov != 0) = true := bne_iff_ne.2 r3
                  have HV2 : Hid (R = noneV) := HRS.out.trans (if_neg (fun h => r3 h.2.2.2))
                  clear r0 r1 r2 r3
                  go_wp2_with fail
                  refine (coefs_any _ _ _ _ _ _).mono ?_
                  rintro e w7 ⟨rfl, hb7⟩
                  obtain ⟨hc7, hf7⟩ := bcell hb7
                  have hz7 := hb7.size
                  have hy0 : pa < wc.heap.size := by omega
                  have hy1 : pa < w7.heap.size := by omega
                  have hy2 : pb < w7.heap.size := by omega
                  have hy3 : w.heap.size + 1 + 1 < wc.heap.size := by omega
                  have hy4 : w.heap.size + 1 + 1 < w7.heap.size := by omega
                  have hy6 : w.heap.size + 1 < w7.heap.size := by omega
                  have hy7 : w.heap.size < w7.heap.size := by omega
                  go_wp2_with fail
                  refine wp_loop_rounds 5 ?_
                  repeat any_goals (rw [rounds_succ]; go_wp2_with fail)
                  exact bodyPost_ret (v := noneV) (by simp [noneV, results, Tryz.results81, go_sem, hc7, hc34, hc23, hc12, hm30, hm32, hlt2, hy3, hy4, z0, z1, z2, z3, z4]) rfl ⟨by rw [HV2.out], (by repeat (first | with_reducible exact Below.refl _ _ | with_reducible refine below_al ?_ _ | with_reducible refine below_dN ?_ _ | with_reducible refine Below.drew ?_ | (with_reducible refine Below.setCell ?_ (by simp <;> omega) _) | (with_reducible refine below_via (by assumption) ?_)))⟩
              · have q2 : (ab.C.tmod ov != 0) = true := bne_iff_ne.2 r2
                have HV2 : Hid (R = noneV) := HRS.out.trans (if_neg (fun h => r2 h.2.2.1))
                clear r0 r1 r2
                go_wp2_with fail
                refine (coefs_any _ _ _ _ _ _).mono ?_
                rintro e w7 ⟨rfl, hb7⟩
                obtain ⟨hc7, hf7⟩ := bcell hb7
                have hz7 := hb7.size
                have hy0 : pa < wc.heap.size := by omega
                have hy1 : pa < w7.heap.size := by omega
                have hy2 : pb < w7.heap.size := by omega
                have hy3 : w.heap.size + 1 + 1 < wc.heap.size := by omega
                have hy4 : w.heap.size + 1 + 1 < w7.heap.size := by omega
                have hy6 : w.heap.size + 1 < w7.heap.size := by omega
                have hy7 : w.heap.size < w7.heap.size := by omega
                go_wp2_with fail
                refine wp_loop_rounds 5 ?_
                repeat any_goals (rw [rounds_succ]; go_wp2_with fail)
                exact bodyPost_ret (v := noneV) (by simp [noneV, results, Tryz.results81, go_sem, hc7, hc34, hc23, hc12, hm30, hm32, hlt2, hy3, hy4, z0, z1, z2, z3, z4]) rfl ⟨by rw [HV2.out], (by repeat (first | with_reducible exact Below.refl _ _ | with_reducible refine below_al ?_ _ | with_reducible refine below_dN ?_ _ | with_reducible refine Below.drew ?_ | (with_reducible refine Below.setCell ?_ (by simp <;> omega) _) | (with_reducible refine below_via (by assumption) ?_)))⟩
            · have q1 : (ab.B.tmod ov != 0) = true := bne_iff_ne.2 r1
              have HV2 : Hid (R = noneV) := HRS.out.trans (if_neg (fun h => r1 h.2.1))
              clear r0 r1
              go_wp2_with fail
              refine (coefs_any _ _ _ _ _ _).mono ?_
              rintro e w7 ⟨rfl, hb7⟩
              obtain ⟨hc7, hf7⟩ := bcell hb7
              have hz7 := hb7.size
              have hy0 : pa < wc.heap.size := by omega
              have hy1 : pa < w7.heap.size := by omega
              have hy2 : pb < w7.heap.size := by omega
              have hy3 : w.heap.size + 1 + 1 < wc.heap.size := by omega
              have hy4 : w.heap.size + 1 + 1 < w7.heap.size := by omega
              have hy6 : w.heap.size + 1 < w7.heap.size := by omega
              have hy7 : w.heap.size < w7.heap.size := by omega
              go_wp2_with fail
              refine wp_loop_rounds 5 ?_
              repeat any_goals (rw [rounds_succ]; go_wp2_with fail)
              exact bodyPost_ret (v := noneV) (by simp [noneV, results, Tryz.results81, go_sem, hc7, hc34, hc23, hc12, hm30, hm32, hlt2, hy3, hy4, z0, z1, z2, z3, z4]) rfl ⟨by rw [HV2.out], (by repeat (first | with_reducible exact Below.refl _ _ | with_reducible refine below_al ?_ _ | with_reducible refine below_dN ?_ _ | with_reducible refine Below.drew ?_ | (with_reducible refine Below.setCell ?_ (by simp <;> omega) _) | (with_reducible refine below_via (by assumption) ?_)))⟩
          · have q0 : (ab.A.tmod ov != 0) = true := bne_iff_ne.2 r0
            have HV2 : Hid (R = noneV) := HRS.out.trans (if_neg (fun h => r0 h.1))
            clear r0
            go_wp2_with fail
            refine (coefs_any _ _ _ _ _ _).mono ?_
            rintro e w7 ⟨rfl, hb7⟩
            obtain ⟨hc7, hf7⟩ := bcell hb7
            have hz7 := hb7.size
            have hy0 : pa < wc.heap.size := by omega
            have hy1 : pa < w7.heap.size := by omega
            have hy2 : pb < w7.heap.size := by omega
            have hy3 : w.heap.size + 1 + 1 < wc.heap.size := by omega
            have hy4 : w.heap.size + 1 + 1 < w7.heap.size := by omega
            have hy6 : w.heap.size + 1 < w7.heap.size := by omega
            have hy7 : w.heap.size < w7.heap.size := by omega
            go_wp2_with fail
            refine wp_loop_rounds 5 ?_
            repeat any_goals (rw [rounds_succ]; go_wp2_with fail)
            exact bodyPost_ret (v := noneV) (by simp [noneV, results, Tryz.results81, go_sem, hc7, hc34, hc23, hc12, hm30, hm32, hlt2, hy3, hy4, z0, z1, z2, z3, z4]) rfl ⟨by rw [HV2.out], (by repeat (first | with_reducible exact Below.refl _ _ | with_reducible refine below_al ?_ _ | with_reducible refine below_dN ?_ _ | with_reducible refine Below.drew ?_ | (with_reducible refine Below.setCell ?_ (by simp <;> omega) _) | (with_reducible refine below_via (by assumption) ?_)))⟩
end Go.Proofs.YtcdmcndjbajhlaaGreatDoor
