
/- The contract of lift, whole. -/
import Derived.Test.YtohadcaapmnlaaaDoorJa
import Derived.Test.YtohadcaapmnlaaaDoorJc
set_option linter.all false
set_option maxRecDepth 100000
namespace Go.Proofs.YtohadcaapmnlaaaDoor
open Go.RowKit
set_option maxHeartbeats 8000000 in
theorem lift_odd (x : Nm) (k : Int) (b T : Nat) (w : World) (hx : x.le 1073741824) (hK : -1000 ≤ x.K ∧ x.K ≤ 1000) (hk : -1000 ≤ k ∧ k ≤ 1000) (hb : Box w b T x) (hlt : x.K < k) (h60 : k - x.K ≤ 60) (he : (k - x.K) % 2 = 1) :
    Calls Tryd.prog 75 #[.pointer (some ⟨b, 0, none⟩), .int .i64 k] w (Lifted (upN (k - x.K).toNat x) b T w) := by
  obtain ⟨A, B, C, D, K⟩ := x
  obtain ⟨h0, h1, h2, h3, h4⟩ := hb.cell
  obtain ⟨f0, f1, f2, f3, f4⟩ := hb.free
  have HB := Lib.hid hb
  clear hb
  dsimp only at *
  obtain ⟨hK1, hK2⟩ := hK
  obtain ⟨hk1, hk2⟩ := hk
  have HX := Lib.hid hx
  obtain ⟨⟨hA1, hA2⟩, ⟨hB1, hB2⟩, ⟨hC1, hC2⟩, ⟨hD1, hD2⟩⟩ := hx
  dsimp only at *
  have g1 : ((k - K) % 2 != 0) = true := by rw [he]; rfl
  have HE := Lib.hid he
  clear he
  have t1 : 0 ≤ (k - K) / 2 := by omega
  have t2 : (k - K) / 2 ≤ 63 := by omega
  go_enter Tryd.func75, Tryd.ntmps75
  go_wp2
  obtain ⟨V0, hV0⟩ : ∃ V, ({ w with drawn := w.drawn + 1 } : World) = V := ⟨_, rfl⟩
  have hO0 : Only b w V0 := by rw [← hV0]; exact (Only.refl b w).drew
  have hb0 : Box V0 b T ⟨A, B, C, D, K⟩ := by rw [← hV0]; exact HB.out
  obtain ⟨V1, hV1⟩ : ∃ V, V0.setCell ⟨b, 0, none⟩ (.int .i64 (IntKind.i64.wrap (B - D))) = V := ⟨_, rfl⟩
  have hb1 : Box V1 b T ⟨IntKind.i64.wrap (B - D), B, C, D, K⟩ := by rw [← hV1]; exact heap_set hb0
  obtain ⟨V2, hV2⟩ : ∃ V, V1.setCell ⟨b, 1, none⟩ (.int .i64 (IntKind.i64.wrap (A + C))) = V := ⟨_, rfl⟩
  have hb2 : Box V2 b T ⟨IntKind.i64.wrap (B - D), IntKind.i64.wrap (A + C), C, D, K⟩ := by rw [← hV2]; exact heap_set hb1
  obtain ⟨V3, hV3⟩ : ∃ V, V2.setCell ⟨b, 2, none⟩ (.int .i64 (IntKind.i64.wrap (B + D))) = V := ⟨_, rfl⟩
  have hb3 : Box V3 b T ⟨IntKind.i64.wrap (B - D), IntKind.i64.wrap (A + C), IntKind.i64.wrap (B + D), D, K⟩ := by rw [← hV3]; exact heap_set hb2
  obtain ⟨V4, hV4⟩ : ∃ V, V3.setCell ⟨b, 3, none⟩ (.int .i64 (IntKind.i64.wrap (C - A))) = V := ⟨_, rfl⟩
  have hb4 : Box V4 b T ⟨IntKind.i64.wrap (B - D), IntKind.i64.wrap (A + C), IntKind.i64.wrap (B + D), IntKind.i64.wrap (C - A), K⟩ := by rw [← hV4]; exact heap_set hb3
  have hO4 : Only b w V4 := by rw [← hV4, ← hV3, ← hV2, ← hV1]; exact (((hO0.set _ _).set _ _).set _ _).set _ _
  obtain ⟨h0, h1, h2, h3, h4⟩ := hb0.cell
  have s0 := h0
  have s1 := hb1.cell.2.1
  have s2 := hb2.cell.2.2.1
  have s3 := hb3.cell.2.2.2.1
  have g0 := hb0.free.1
  have g1 := hb1.free.2.1
  have g2 := hb2.free.2.2.1
  have g3 := hb3.free.2.2.2.1
  refine region_stores (fun n W => W = (match n with | 0 => V0 | 1 => V1 | 2 => V2 | 3 => V3 | _ => V4)) [51, 55, 59, 63] 18 [(.pointer (some ⟨b, 0, none⟩)), (.pointer (some ⟨b, 0, none⟩)), (.pointer (some ⟨b, 0, none⟩)), (.pointer (some ⟨b, 0, none⟩)), (.pointer (some ⟨b, 0, none⟩)), (.pointer (some ⟨b, 0, none⟩)), (.pointer (some ⟨b, 0, none⟩)), (.pointer (some ⟨b, 1, none⟩)), (.int .i64 B), (.pointer (some ⟨b, 0, none⟩)), (.pointer (some ⟨b, 0, none⟩)), (.pointer (some ⟨b, 0, none⟩)), (.pointer (some ⟨b, 3, none⟩)), (.int .i64 D), (.int .i64 (IntKind.i64.wrap (B - D))), (.pointer (some ⟨b, 0, none⟩)), (.pointer (some ⟨b, 0, none⟩)), (.pointer (some ⟨b, 0, none⟩)), (.pointer (some ⟨b, 0, none⟩)), (.int .i64 A), (.pointer (some ⟨b, 0, none⟩)), (.pointer (some ⟨b, 0, none⟩)), (.pointer (some ⟨b, 0, none⟩)), (.pointer (some ⟨b, 2, none⟩)), (.int .i64 C), (.int .i64 (IntKind.i64.wrap (A + C))), (.pointer (some ⟨b, 0, none⟩)), (.pointer (some ⟨b, 0, none⟩)), (.pointer (some ⟨b, 0, none⟩)), (.pointer (some ⟨b, 1, none⟩)), (.int .i64 B), (.pointer (some ⟨b, 0, none⟩)), (.pointer (some ⟨b, 0, none⟩)), (.pointer (some ⟨b, 0, none⟩)), (.pointer (some ⟨b, 3, none⟩)), (.int .i64 D), (.int .i64 (IntKind.i64.wrap (B + D))), (.pointer (some ⟨b, 0, none⟩)), (.pointer (some ⟨b, 0, none⟩)), (.pointer (some ⟨b, 0, none⟩)), (.pointer (some ⟨b, 2, none⟩)), (.int .i64 C), (.pointer (some ⟨b, 0, none⟩)), (.pointer (some ⟨b, 0, none⟩)), (.pointer (some ⟨b, 0, none⟩)), (.pointer (some ⟨b, 0, none⟩)), (.int .i64 A), (.int .i64 (IntKind.i64.wrap (C - A))), (.pointer (some ⟨b, 0, none⟩)), (.pointer (some ⟨b, 0, none⟩)), (.pointer (some ⟨b, 0, none⟩)), (.pointer (some ⟨b, 0, none⟩)), (.pointer (some ⟨b, 0, none⟩)), (.pointer (some ⟨b, 1, none⟩)), (.pointer (some ⟨b, 0, none⟩)), (.pointer (some ⟨b, 0, none⟩)), (.pointer (some ⟨b, 2, none⟩)), (.pointer (some ⟨b, 0, none⟩)), (.pointer (some ⟨b, 0, none⟩)), (.pointer (some ⟨b, 3, none⟩)), undef, undef, undef, undef, undef, undef, undef, undef, undef, undef, undef, undef, undef, undef, undef, undef, undef, undef, undef, undef, undef, undef, undef, undef, undef, undef, undef, undef, undef, undef, undef, undef, undef, undef, undef, undef, undef, undef, undef, undef, undef, undef, undef, undef, undef, undef, undef, undef, undef, undef, undef, undef] 18 (.pointer (some ⟨b, 0, none⟩)) (by kernel_rfl) (by kernel_rfl) (by kernel_rfl) (outV_fin _ 60 (by kernel_rfl) (Nat.le_of_ble_eq_true (by kernel_rfl)) (Nat.le_of_ble_eq_true (by kernel_rfl)) (by kernel_rfl)) (by kernel_rfl) hV0 ?_ ?_
  rotate_left
  · clear hO0 hO4 hb0 hb1 hb2 hb3 hb4
    refine eachOp_cons (okM_val (by kernel_rfl) (by kernel_rfl) (by kernel_rfl) (fun _ => by kernel_rfl)) ?_
    refine eachOp_cons (okM_val (by kernel_rfl) (by kernel_rfl) (by kernel_rfl) (fun _ => by kernel_rfl)) ?_
    refine eachOp_cons (okM_val (by kernel_rfl) (by kernel_rfl) (by kernel_rfl) (fun _ => by kernel_rfl)) ?_
    refine eachOp_cons (okM_val (by kernel_rfl) (by kernel_rfl) (by kernel_rfl) (fun _ => by kernel_rfl)) ?_
    refine eachOp_cons (okM_val (by kernel_rfl) (by kernel_rfl) (by kernel_rfl) (fun _ => by kernel_rfl)) ?_
    refine eachOp_cons (okM_val (by kernel_rfl) (by kernel_rfl) (by kernel_rfl) (fun _ => by kernel_rfl)) ?_
    refine eachOp_cons (okM_val (by kernel_rfl) (by kernel_rfl) (by kernel_rfl) (fun _ => by kernel_rfl)) ?_
    refine eachOp_cons (okM_val (by kernel_rfl) (by kernel_rfl) (by kernel_rfl) (fun _ => by kernel_rfl)) ?_
    refine eachOp_cons (okM_load (by kernel_rfl) (by kernel_rfl) (by kernel_rfl) rfl rfl (by kernel_rfl) (fun W hC => by obtain rfl : W = V0 := hC; exact load_int rfl (by kernel_rfl) h1)) ?_
    refine eachOp_cons (okM_val (by kernel_rfl) (by kernel_rfl) (by kernel_rfl) (fun _ => by kernel_rfl)) ?_
    refine eachOp_cons (okM_val (by kernel_rfl) (by kernel_rfl) (by kernel_rfl) (fun _ => by kernel_rfl)) ?_
    refine eachOp_cons (okM_val (by kernel_rfl) (by kernel_rfl) (by kernel_rfl) (fun _ => by kernel_rfl)) ?_
    refine eachOp_cons (okM_val (by kernel_rfl) (by kernel_rfl) (by kernel_rfl) (fun _ => by kernel_rfl)) ?_
    refine eachOp_cons (okM_load (by kernel_rfl) (by kernel_rfl) (by kernel_rfl) rfl rfl (by kernel_rfl) (fun W hC => by obtain rfl : W = V0 := hC; exact load_int rfl (by kernel_rfl) h3)) ?_
    refine eachOp_cons (okM_val (by kernel_rfl) (by kernel_rfl) (by kernel_rfl) (fun _ => by kernel_rfl)) ?_
    refine eachOp_cons (okM_val (by kernel_rfl) (by kernel_rfl) (by kernel_rfl) (fun _ => by kernel_rfl)) ?_
    refine eachOp_cons (okM_val (by kernel_rfl) (by kernel_rfl) (by kernel_rfl) (fun _ => by kernel_rfl)) ?_
    refine eachOp_cons (okM_val (by kernel_rfl) (by kernel_rfl) (by kernel_rfl) (fun _ => by kernel_rfl)) ?_
    refine eachOp_cons (okM_val (by kernel_rfl) (by kernel_rfl) (by kernel_rfl) (fun _ => by kernel_rfl)) ?_
    refine eachOp_cons (okM_load (by kernel_rfl) (by kernel_rfl) (by kernel_rfl) rfl rfl (by kernel_rfl) (fun W hC => by obtain rfl : W = V0 := hC; exact load_int rfl (by kernel_rfl) h0)) ?_
    refine eachOp_cons (okM_val (by kernel_rfl) (by kernel_rfl) (by kernel_rfl) (fun _ => by kernel_rfl)) ?_
    refine eachOp_cons (okM_val (by kernel_rfl) (by kernel_rfl) (by kernel_rfl) (fun _ => by kernel_rfl)) ?_
    refine eachOp_cons (okM_val (by kernel_rfl) (by kernel_rfl) (by kernel_rfl) (fun _ => by kernel_rfl)) ?_
    refine eachOp_cons (okM_val (by kernel_rfl) (by kernel_rfl) (by kernel_rfl) (fun _ => by kernel_rfl)) ?_
    refine eachOp_cons (okM_load (by kernel_rfl) (by kernel_rfl) (by kernel_rfl) rfl rfl (by kernel_rfl) (fun W hC => by obtain rfl : W = V0 := hC; exact load_int rfl (by kernel_rfl) h2)) ?_
    refine eachOp_cons (okM_val (by kernel_rfl) (by kernel_rfl) (by kernel_rfl) (fun _ => by kernel_rfl)) ?_
    refine eachOp_cons (okM_val (by kernel_rfl) (by kernel_rfl) (by kernel_rfl) (fun _ => by kernel_rfl)) ?_
    refine eachOp_cons (okM_val (by kernel_rfl) (by kernel_rfl) (by kernel_rfl) (fun _ => by kernel_rfl)) ?_
    refine eachOp_cons (okM_val (by kernel_rfl) (by kernel_rfl) (by kernel_rfl) (fun _ => by kernel_rfl)) ?_
    refine eachOp_cons (okM_val (by kernel_rfl) (by kernel_rfl) (by kernel_rfl) (fun _ => by kernel_rfl)) ?_
    refine eachOp_cons (okM_load (by kernel_rfl) (by kernel_rfl) (by kernel_rfl) rfl rfl (by kernel_rfl) (fun W hC => by obtain rfl : W = V0 := hC; exact load_int rfl (by kernel_rfl) h1)) ?_
    refine eachOp_cons (okM_val (by kernel_rfl) (by kernel_rfl) (by kernel_rfl) (fun _ => by kernel_rfl)) ?_
    refine eachOp_cons (okM_val (by kernel_rfl) (by kernel_rfl) (by kernel_rfl) (fun _ => by kernel_rfl)) ?_
    refine eachOp_cons (okM_val (by kernel_rfl) (by kernel_rfl) (by kernel_rfl) (fun _ => by kernel_rfl)) ?_
    refine eachOp_cons (okM_val (by kernel_rfl) (by kernel_rfl) (by kernel_rfl) (fun _ => by kernel_rfl)) ?_
    refine eachOp_cons (okM_load (by kernel_rfl) (by kernel_rfl) (by kernel_rfl) rfl rfl (by kernel_rfl) (fun W hC => by obtain rfl : W = V0 := hC; exact load_int rfl (by kernel_rfl) h3)) ?_
    refine eachOp_cons (okM_val (by kernel_rfl) (by kernel_rfl) (by kernel_rfl) (fun _ => by kernel_rfl)) ?_
    refine eachOp_cons (okM_val (by kernel_rfl) (by kernel_rfl) (by kernel_rfl) (fun _ => by kernel_rfl)) ?_
    refine eachOp_cons (okM_val (by kernel_rfl) (by kernel_rfl) (by kernel_rfl) (fun _ => by kernel_rfl)) ?_
    refine eachOp_cons (okM_val (by kernel_rfl) (by kernel_rfl) (by kernel_rfl) (fun _ => by kernel_rfl)) ?_
    refine eachOp_cons (okM_val (by kernel_rfl) (by kernel_rfl) (by kernel_rfl) (fun _ => by kernel_rfl)) ?_
    refine eachOp_cons (okM_load (by kernel_rfl) (by kernel_rfl) (by kernel_rfl) rfl rfl (by kernel_rfl) (fun W hC => by obtain rfl : W = V0 := hC; exact load_int rfl (by kernel_rfl) h2)) ?_
    refine eachOp_cons (okM_val (by kernel_rfl) (by kernel_rfl) (by kernel_rfl) (fun _ => by kernel_rfl)) ?_
    refine eachOp_cons (okM_val (by kernel_rfl) (by kernel_rfl) (by kernel_rfl) (fun _ => by kernel_rfl)) ?_
    refine eachOp_cons (okM_val (by kernel_rfl) (by kernel_rfl) (by kernel_rfl) (fun _ => by kernel_rfl)) ?_
    refine eachOp_cons (okM_val (by kernel_rfl) (by kernel_rfl) (by kernel_rfl) (fun _ => by kernel_rfl)) ?_
    refine eachOp_cons (okM_load (by kernel_rfl) (by kernel_rfl) (by kernel_rfl) rfl rfl (by kernel_rfl) (fun W hC => by obtain rfl : W = V0 := hC; exact load_int rfl (by kernel_rfl) h0)) ?_
    refine eachOp_cons (okM_val (by kernel_rfl) (by kernel_rfl) (by kernel_rfl) (fun _ => by kernel_rfl)) ?_
    refine eachOp_cons (okM_val (by kernel_rfl) (by kernel_rfl) (by kernel_rfl) (fun _ => by kernel_rfl)) ?_
    refine eachOp_cons (okM_val (by kernel_rfl) (by kernel_rfl) (by kernel_rfl) (fun _ => by kernel_rfl)) ?_
    refine eachOp_cons (okM_val (by kernel_rfl) (by kernel_rfl) (by kernel_rfl) (fun _ => by kernel_rfl)) ?_
    refine eachOp_cons (okM_store 0 rfl (by kernel_rfl) (by kernel_rfl) rfl (fun W hC => by obtain rfl : W = V0 := hC; exact ⟨_, store_int rfl (by kernel_rfl) (by kernel_rfl) s0 g0, hV1⟩)) ?_
    refine eachOp_cons (okM_val (by kernel_rfl) (by kernel_rfl) (by kernel_rfl) (fun _ => by kernel_rfl)) ?_
    refine eachOp_cons (okM_val (by kernel_rfl) (by kernel_rfl) (by kernel_rfl) (fun _ => by kernel_rfl)) ?_
    refine eachOp_cons (okM_val (by kernel_rfl) (by kernel_rfl) (by kernel_rfl) (fun _ => by kernel_rfl)) ?_
    refine eachOp_cons (okM_store 1 rfl (by kernel_rfl) (by kernel_rfl) rfl (fun W hC => by obtain rfl : W = V1 := hC; exact ⟨_, store_int rfl (by kernel_rfl) (by kernel_rfl) s1 g1, hV2⟩)) ?_
    refine eachOp_cons (okM_val (by kernel_rfl) (by kernel_rfl) (by kernel_rfl) (fun _ => by kernel_rfl)) ?_
    refine eachOp_cons (okM_val (by kernel_rfl) (by kernel_rfl) (by kernel_rfl) (fun _ => by kernel_rfl)) ?_
    refine eachOp_cons (okM_val (by kernel_rfl) (by kernel_rfl) (by kernel_rfl) (fun _ => by kernel_rfl)) ?_
    refine eachOp_cons (okM_store 2 rfl (by kernel_rfl) (by kernel_rfl) rfl (fun W hC => by obtain rfl : W = V2 := hC; exact ⟨_, store_int rfl (by kernel_rfl) (by kernel_rfl) s2 g2, hV3⟩)) ?_
    refine eachOp_cons (okM_val (by kernel_rfl) (by kernel_rfl) (by kernel_rfl) (fun _ => by kernel_rfl)) ?_
    refine eachOp_cons (okM_val (by kernel_rfl) (by kernel_rfl) (by kernel_rfl) (fun _ => by kernel_rfl)) ?_
    refine eachOp_cons (okM_val (by kernel_rfl) (by kernel_rfl) (by kernel_rfl) (fun _ => by kernel_rfl)) ?_
    refine eachOp_cons (okM_store 3 rfl (by kernel_rfl) (by kernel_rfl) rfl (fun W hC => by obtain rfl : W = V3 := hC; exact ⟨_, store_int rfl (by kernel_rfl) (by kernel_rfl) s3 g3, hV4⟩)) ?_
    exact eachOp_nil
  intro W hW
  rename_i hK
  refine hK _ _ ?_
  replace hW : W = V4 := hW
  rw [hW]
  clear hW W
  have hwr : IntKind.i64.wrap (B - D) = B - D ∧ IntKind.i64.wrap (A + C) = A + C ∧ IntKind.i64.wrap (B + D) = B + D ∧ IntKind.i64.wrap (C - A) = C - A := ⟨IntWalk.i64_in _ (by omega), IntWalk.i64_in _ (by omega), IntWalk.i64_in _ (by omega), IntWalk.i64_in _ (by omega)⟩
  rw [hwr.1, hwr.2.1, hwr.2.2.1, hwr.2.2.2] at hb4
  simp only [finA, List.take_succ_cons, List.take_zero, List.cons_append, List.nil_append, List.set_cons_succ, List.set_cons_zero]
  clear h0 h1 h2 h3 h4 f0 f1 f2 f3 f4 s0 s1 s2 s3 g0 g2 g3 hV0 hV1 hV2 hV3 hV4 hO0 hb0 hb1 hb2 hb3 HB hwr hK
  obtain ⟨h0, h1, h2, h3, h4⟩ := hb4.cell
  obtain ⟨f0, f1, f2, f3, f4⟩ := hb4.free
  have HB2 := Lib.hid hb4
  have hO2 := Lib.hid hO4
  clear hb4 hO4
  dsimp only at h0 h1 h2 h3 h4
  go_wp2
  go_region
  go_wp2
  go_end0
  have hn : (k - K).toNat = 2 * ((k - K) / 2).toNat + 1 := by have := HE.out; omega
  have hu := upN_odd ((k - K) / 2).toNat ⟨A, B, C, D, K⟩
  rw [← hn] at hu
  have hl := upN_le (k - K).toNat (by omega) HX.out
  have hKK := upN_K (k - K).toNat ⟨A, B, C, D, K⟩
  dsimp only at hKK
  have e5 : (upN (k - K).toNat ⟨A, B, C, D, K⟩).K = k := by rw [hKK]; omega
  unfold Nm.le at hl
  have e1 : wrap64 ((B - D) * 2 ^ ((k - K) / 2).toNat) = (upN (k - K).toNat ⟨A, B, C, D, K⟩).A := by
    have : (upN (k - K).toNat ⟨A, B, C, D, K⟩).A = (B - D) * 2 ^ ((k - K) / 2).toNat := by rw [hu]; rfl
    rw [← this]; exact wr_in (by omega)
  have e2 : wrap64 ((A + C) * 2 ^ ((k - K) / 2).toNat) = (upN (k - K).toNat ⟨A, B, C, D, K⟩).B := by
    have : (upN (k - K).toNat ⟨A, B, C, D, K⟩).B = (A + C) * 2 ^ ((k - K) / 2).toNat := by rw [hu]; rfl
    rw [← this]; exact wr_in (by omega)
  have e3 : wrap64 ((B + D) * 2 ^ ((k - K) / 2).toNat) = (upN (k - K).toNat ⟨A, B, C, D, K⟩).C := by
    have : (upN (k - K).toNat ⟨A, B, C, D, K⟩).C = (B + D) * 2 ^ ((k - K) / 2).toNat := by rw [hu]; rfl
    rw [← this]; exact wr_in (by omega)
  have e4 : wrap64 ((C - A) * 2 ^ ((k - K) / 2).toNat) = (upN (k - K).toNat ⟨A, B, C, D, K⟩).D := by
    have : (upN (k - K).toNat ⟨A, B, C, D, K⟩).D = (C - A) * 2 ^ ((k - K) / 2).toNat := by rw [hu]; rfl
    rw [← this]; exact wr_in (by omega)
  refine ⟨rfl, hO2.out.trans (by repeat (first | with_reducible exact Only.refl _ _ | with_reducible refine Only.set ?_ _ _ | with_reducible refine Only.dN ?_ _ | with_reducible refine Only.drew ?_)), ?_⟩
  unfold Box
  rw [← e1, ← e2, ← e3, ← e4, e5]
  exact heap_set (heap_set (heap_set (heap_set (heap_set HB2.out))))

theorem lift_any (x : Nm) (k : Int) (b T : Nat) (w : World) (hx : x.le 1073741824) (hK : -1000 ≤ x.K ∧ x.K ≤ 1000) (hk : -1000 ≤ k ∧ k ≤ 1000) (hb : Box w b T x) (h60 : k - x.K ≤ 60) :
    Calls Tryd.prog 75 #[.pointer (some ⟨b, 0, none⟩), .int .i64 k] w (Lifted (liftN x k) b T w) := by
  unfold liftN
  split
  · rename_i h
    exact lift_none x k b T w hK hk hb h
  · rename_i h
    rcases Int.emod_two_eq (k - x.K) with e | e
    · exact lift_even x k b T w hx hK hk hb (by omega) h60 e
    · exact lift_odd x k b T w hx hK hk hb (by omega) h60 e
end Go.Proofs.YtohadcaapmnlaaaDoor
