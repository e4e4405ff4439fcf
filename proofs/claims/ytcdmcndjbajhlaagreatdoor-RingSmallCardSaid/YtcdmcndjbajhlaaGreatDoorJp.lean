/- Contracts of package ring: plus, minus, Add, Sub, by way of what lift does. -/
import Derived.Test.YtcdmcndjbajhlaaGreatDoorJa
import Derived.Test.YtcdmcndjbajhlaaGreatDoorJc
import Derived.Test.YtcdmcndjbajhlaaGreatDoorJo
set_option linter.all false
set_option maxRecDepth 100000
namespace Go.Proofs.YtcdmcndjbajhlaaGreatDoor
open Go.RowKit
set_option maxHeartbeats 8000000 in
theorem lift_odd (x : Nm) (k : Int) (b T : Nat) (w : World) (hx : x.le 1073741824) (hK : -1000 ≤ x.K ∧ x.K ≤ 1000) (hk : -1000 ≤ k ∧ k ≤ 1000) (hb : Box w b T x) (hlt : x.K < k) (h60 : k - x.K ≤ 60) (he : (k - x.K) % 2 = 1) :
    Calls Tryz.prog 104 #[.pointer (some ⟨b, 0, none⟩), .int .i64 k] w (Lifted (upN (k - x.K).toNat x) b T w) := by
  obtain ⟨A, B, C, D, K⟩ := x
  obtain ⟨h0, h1, h2, h3, h4⟩ := hb.cell
  obtain ⟨f0, f1, f2, f3, f4⟩ := hb.free
  have HB := Lib.hid hb
  clear hb
  dsimp only at *
  obtain ⟨hK1, hK2⟩ := hK
  obtain ⟨hk1, hk2⟩ := hk
  have HX := Lib.hid hx
  obtain ⟨⟨hA1, hA2⟩, ⟨hB1, hB2⟩, ⟨hC1, hC2⟩, ⟨hD1, hD2⟩⟩ := hx
  dsimp only at *
  have g1 : ((k - K) % 2 != 0) = true := by rw [he]; rfl
  have HE := Lib.hid he
  clear he
  have t1 : 0 ≤ (k - K) / 2 := by omega
  have t2 : (k - K) / 2 ≤ 63 := by omega
  go_enter Tryz.func104, Tryz.ntmps104
  go_wp2
  obtain ⟨V0, hV0⟩ : ∃ V, ({ w with drawn := w.drawn + 1 } : World) = V := ⟨_, rfl⟩
  have hO0 : Only b w V0 := by rw [← hV0]; exact (Only.refl b w).drew
  have hb0 : Box V0 b T ⟨A, B, C, D, K⟩ := by rw [← hV0]; exact HB.out
  obtain ⟨V1, hV1⟩ : ∃ V, V0.setCell ⟨b, 0, none⟩ (.int .i64 (IntKind.i64.wrap (B - D))) = V := ⟨_, rfl⟩
  have hb1 : Box V1 b T ⟨IntKind.i64.wrap (B - D), B, C, D, K⟩ := by rw [← hV1]; exact heap_set hb0
  obtain ⟨V2, hV2⟩ : ∃ V, V1.setCell ⟨b, 1, none⟩ (.int .i64 (IntKind.i64.wrap (A + C))) = V := ⟨_, rfl⟩
  have hb2 : Box V2 b T ⟨IntKind.i64.wrap (B - D), IntKind.i64.wrap (A + C), C, D, K⟩ := by rw [← hV2]; exact heap_set hb1
  obtain ⟨V3, hV3⟩ : ∃ V, V2.setCell ⟨b, 2, none⟩ (.int .i64 (IntKind.i64.wrap (B + D))) = V := ⟨_, rfl⟩
  have hb3 : Box V3 b T ⟨IntKind.i64.wrap (B - D), IntKind.i64.wrap (A + C), IntKind.i64.wrap (B + D), D, K⟩ := by rw [← hV3]; exact heap_set hb2
  obtain ⟨V4, hV4⟩ : ∃ V, V3.setCell ⟨b, 3, none⟩ (.int .i64 (IntKind.i64.wrap (C - A))) = V := ⟨_, rfl⟩
  have hb4 : Box V4 b T ⟨IntKind.i64.wrap (B - D), IntKind.i64.wrap (A + C), IntKind.i64.wrap (B + D), IntKind.i64.wrap (C - A), K⟩ := by rw [← hV4]; exact heap_set hb3
  have hO4 : Only b w V4 := by rw [← hV4, ← hV3, ← hV2, ← hV1]; exact (((hO0.set _ _).set _ _).set _ _).set _ _
  obtain ⟨h0, h1, h2, h3, h4⟩ := hb0.cell
  have s0 := h0
  have s1 := hb1.cell.2.1
  have s2 := hb2.cell.2.2.1
  have s3 := hb3.cell.2.2.2.1
  have g0 := hb0.free.1
  have g1 := hb1.free.2.1
  have g2 := hb2.free.2.2.1
  have g3 := hb3.free.2.2.2.1
  refine region_stores (fun n W => W = (match n with | 0 => V0 | 1 => V1 | 2 => V2 | 3 => V3 | _ => V4)) [51, 55, 59, 63] 18 [(.pointer (some ⟨b, 0, none⟩)), (.pointer (some ⟨b, 0, none⟩)), (.pointer (some ⟨b, 0, none⟩)), (.pointer (some ⟨b, 0, none⟩)), (.pointer (some ⟨b, 0, none⟩)), (.pointer (some ⟨b, 0, none⟩)), (.pointer (some ⟨b, 0, none⟩)), (.pointer (some ⟨b, 1, none⟩)), (.int .i64 B), (.pointer (some ⟨b, 0, none⟩)), (.pointer (some ⟨b, 0, none⟩)), (.pointer (some ⟨b, 0, none⟩)), (.pointer (some ⟨b, 3, none⟩)), (.int .i64 D), (.int .i64 (IntKind.i64.wrap (B - D))), (.pointer (some ⟨b, 0, none⟩)), (.pointer (some ⟨b, 0, none⟩)), (.pointer (some ⟨b, 0, none⟩)), (.pointer (some ⟨b, 0, none⟩)), (.int .i64 A), (.pointer (some ⟨b, 0, none⟩)), (.pointer (some ⟨b, 0, none⟩)), (.pointer (some ⟨b, 0, none⟩)), (.pointer (some ⟨b, 2, none⟩)), (.int .i64 C), (.int .i64 (IntKind.i64.wrap (A + C))), (.pointer (some ⟨b, 0, none⟩)), (.pointer (some ⟨b, 0, none⟩)), (.pointer (some ⟨b, 0, none⟩)), (.pointer (some ⟨b, 1, none⟩)), (.int .i64 B), (.pointer (some ⟨b, 0, none⟩)), (.pointer (some ⟨b, 0, none⟩)), (.pointer (some ⟨b, 0, none⟩)), (.pointer (some ⟨b, 3, none⟩)), (.int .i64 D), (.int .i64 (IntKind.i64.wrap (B + D))), (.pointer (some ⟨b, 0, none⟩)), (.pointer (some ⟨b, 0, none⟩)), (.pointer (some ⟨b, 0, none⟩)), (.pointer (some ⟨b, 2, none⟩)), (.int .i64 C), (.pointer (some ⟨b, 0, none⟩)), (.pointer (some ⟨b, 0, none⟩)), (.pointer (some ⟨b, 0, none⟩)), (.pointer (some ⟨b, 0, none⟩)), (.int .i64 A), (.int .i64 (IntKind.i64.wrap (C - A))), (.pointer (some ⟨b, 0, none⟩)), (.pointer (some ⟨b, 0, none⟩)), (.pointer (some ⟨b, 0, none⟩)), (.pointer (some ⟨b, 0, none⟩)), (.pointer (some ⟨b, 0, none⟩)), (.pointer (some ⟨b, 1, none⟩)), (.pointer (some ⟨b, 0, none⟩)), (.pointer (some ⟨b, 0, none⟩)), (.pointer (some ⟨b, 2, none⟩)), (.pointer (some ⟨b, 0, none⟩)), (.pointer (some ⟨b, 0, none⟩)), (.pointer (some ⟨b, 3, none⟩)), undef, undef, undef, undef, undef, undef, undef, undef, undef, undef, undef, undef, undef, undef, undef, undef, undef, undef, undef, undef, undef, undef, undef, undef, undef, undef, undef, undef, undef, undef, undef, undef, undef, undef, undef, undef, undef, undef, undef, undef, undef, undef, undef, undef, undef, undef, undef, undef, undef, undef, undef, undef] 18 (.pointer (some ⟨b, 0, none⟩)) (by kernel_rfl) (by kernel_rfl) (by kernel_rfl) (outV_fin _ 60 (by kernel_rfl) (Nat.le_of_ble_eq_true (by kernel_rfl)) (Nat.le_of_ble_eq_true (by kernel_rfl)) (by kernel_rfl)) (by kernel_rfl) hV0 ?_ ?_
  rotate_left
  · clear hO0 hO4 hb0 hb1 hb2 hb3 hb4
    refine eachOp_cons (okM_val (by kernel_rfl) (by kernel_rfl) (by kernel_rfl) (fun _ => by kernel_rfl)) ?_
    refine eachOp_cons (okM_val (by kernel_rfl) (by kernel_rfl) (by kernel_rfl) (fun _ => by kernel_rfl)) ?_
    refine eachOp_cons (okM_val (by kernel_rfl) (by kernel_rfl) (by kernel_rfl) (fun _ => by kernel_rfl)) ?_
    refine eachOp_cons (okM_val (by kernel_rfl) (by kernel_rfl) (by kernel_rfl) (fun _ => by kernel_rfl)) ?_
    refine eachOp_cons (okM_val (by kernel_rfl) (by kernel_rfl) (by kernel_rfl) (fun _ => by kernel_rfl)) ?_
    refine eachOp_cons (okM_val (by kernel_rfl) (by kernel_rfl) (by kernel_rfl) (fun _ => by kernel_rfl)) ?_
    refine eachOp_cons (okM_val (by kernel_rfl) (by kernel_rfl) (by kernel_rfl) (fun _ => by kernel_rfl)) ?_
    refine eachOp_cons (okM_val (by kernel_rfl) (by kernel_rfl) (by kernel_rfl) (fun _ => by kernel_rfl)) ?_
    refine eachOp_cons (okM_load (by kernel_rfl) (by kernel_rfl) (by kernel_rfl) rfl rfl (by kernel_rfl) (fun W hC => by obtain rfl : W = V0 := hC; exact load_int rfl (by kernel_rfl) h1)) ?_
    refine eachOp_cons (okM_val (by kernel_rfl) (by kernel_rfl) (by kernel_rfl) (fun _ => by kernel_rfl)) ?_
    refine eachOp_cons (okM_val (by kernel_rfl) (by kernel_rfl) (by kernel_rfl) (fun _ => by kernel_rfl)) ?_
    refine eachOp_cons (okM_val (by kernel_rfl) (by kernel_rfl) (by kernel_rfl) (fun _ => by kernel_rfl)) ?_
    refine eachOp_cons (okM_val (by kernel_rfl) (by kernel_rfl) (by kernel_rfl) (fun _ => by kernel_rfl)) ?_
    refine eachOp_cons (okM_load (by kernel_rfl) (by kernel_rfl) (by kernel_rfl) rfl rfl (by kernel_rfl) (fun W hC => by obtain rfl : W = V0 := hC; exact load_int rfl (by kernel_rfl) h3)) ?_
    refine eachOp_cons (okM_val (by kernel_rfl) (by kernel_rfl) (by kernel_rfl) (fun _ => by kernel_rfl)) ?_
    refine eachOp_cons (okM_val (by kernel_rfl) (by kernel_rfl) (by kernel_rfl) (fun _ => by kernel_rfl)) ?_
    refine eachOp_cons (okM_val (by kernel_rfl) (by kernel_rfl) (by kernel_rfl) (fun _ => by kernel_rfl)) ?_
    refine eachOp_cons (okM_val (by kernel_rfl) (by kernel_rfl) (by kernel_rfl) (fun _ => by kernel_rfl)) ?_
    refine eachOp_cons (okM_val (by kernel_rfl) (by kernel_rfl) (by kernel_rfl) (fun _ => by kernel_rfl)) ?_
    refine eachOp_cons (okM_load (by kernel_rfl) (by kernel_rfl) (by kernel_rfl) rfl rfl (by kernel_rfl) (fun W hC => by obtain rfl : W = V0 := hC; exact load_int rfl (by kernel_rfl) h0)) ?_
    refine eachOp_cons (okM_val (by kernel_rfl) (by kernel_rfl) (by kernel_rfl) (fun _ => by kernel_rfl)) ?_
    refine eachOp_cons (okM_val (by kernel_rfl) (by kernel_rfl) (by kernel_rfl) (fun _ => by kernel_rfl)) ?_
    refine eachOp_cons (okM_val (by kernel_rfl) (by kernel_rfl) (by kernel_rfl) (fun _ => by kernel_rfl)) ?_
    refine eachOp_cons (okM_val (by kernel_rfl) (by kernel_rfl) (by kernel_rfl) (fun _ => by kernel_rfl)) ?_
    refine eachOp_cons (okM_load (by kernel_rfl) (by kernel_rfl) (by kernel_rfl) rfl rfl (by kernel_rfl) (fun W hC => by obtain rfl : W = V0 := hC; exact load_int rfl (by kernel_rfl) h2)) ?_
    refine eachOp_cons (okM_val (by kernel_rfl) (by kernel_rfl) (by kernel_rfl) (fun _ => by kernel_rfl)) ?_
    refine eachOp_cons (okM_val (by kernel_rfl) (by kernel_rfl) (by kernel_rfl) (fun _ => by kernel_rfl)) ?_
    refine eachOp_cons (okM_val (by kernel_rfl) (by kernel_rfl) (by kernel_rfl) (fun _ => by kernel_rfl)) ?_
    refine eachOp_cons (okM_val (by kernel_rfl) (by kernel_rfl) (by kernel_rfl) (fun _ => by kernel_rfl)) ?_
    refine eachOp_cons (okM_val (by kernel_rfl) (by kernel_rfl) (by kernel_rfl) (fun _ => by kernel_rfl)) ?_
    refine eachOp_cons (okM_load (by kernel_rfl) (by kernel_rfl) (by kernel_rfl) rfl rfl (by kernel_rfl) (fun W hC => by obtain rfl : W = V0 := hC; exact load_int rfl (by kernel_rfl) h1)) ?_
    refine eachOp_cons (okM_val (by kernel_rfl) (by kernel_rfl) (by kernel_rfl) (fun _ => by kernel_rfl)) ?_
    refine eachOp_cons (okM_val (by kernel_rfl) (by kernel_rfl) (by kernel_rfl) (fun _ => by kernel_rfl)) ?_
    refine eachOp_cons (okM_val (by kernel_rfl) (by kernel_rfl) (by kernel_rfl) (fun _ => by kernel_rfl)) ?_
    refine eachOp_cons (okM_val (by kernel_rfl) (by kernel_rfl) (by kernel_rfl) (fun _ => by kernel_rfl)) ?_
    refine eachOp_cons (okM_load (by kernel_rfl) (by kernel_rfl) (by kernel_rfl) rfl rfl (by kernel_rfl) (fun W hC => by obtain rfl : W = V0 := hC; exact load_int rfl (by kernel_rfl) h3)) ?_
    refine eachOp_cons (okM_val (by kernel_rfl) (by kernel_rfl) (by kernel_rfl) (fun _ => by kernel_rfl)) ?_
    refine eachOp_cons (okM_val (by kernel_rfl) (by kernel_rfl) (by kernel_rfl) (fun _ => by kernel_rfl)) ?_
    refine eachOp_cons (okM_val (by kernel_rfl) (by kernel_rfl) (by kernel_rfl) (fun _ => by kernel_rfl)) ?_
    refine eachOp_cons (okM_val (by kernel_rfl) (by kernel_rfl) (by kernel_rfl) (fun _ => by kernel_rfl)) ?_
    refine eachOp_cons (okM_val (by kernel_rfl) (by kernel_rfl) (by kernel_rfl) (fun _ => by kernel_rfl)) ?_
    refine eachOp_cons (okM_load (by kernel_rfl) (by kernel_rfl) (by kernel_rfl) rfl rfl (by kernel_rfl) (fun W hC => by obtain rfl : W = V0 := hC; exact load_int rfl (by kernel_rfl) h2)) ?_
    refine eachOp_cons (okM_val (by kernel_rfl) (by kernel_rfl) (by kernel_rfl) (fun _ => by kernel_rfl)) ?_
    refine eachOp_cons (okM_val (by kernel_rfl) (by kernel_rfl) (by kernel_rfl) (fun _ => by kernel_rfl)) ?_
    refine eachOp_cons (okM_val (by kernel_rfl) (by kernel_rfl) (by kernel_rfl) (fun _ => by kernel_rfl)) ?_
    refine eachOp_cons (okM_val (by kernel_rfl) (by kernel_rfl) (by kernel_rfl) (fun _ => by kernel_rfl)) ?_
    refine eachOp_cons (okM_load (by kernel_rfl) (by kernel_rfl) (by kernel_rfl) rfl rfl (by kernel_rfl) (fun W hC => by obtain rfl : W = V0 := hC; exact load_int rfl (by kernel_rfl) h0)) ?_
    refine eachOp_cons (okM_val (by kernel_rfl) (by kernel_rfl) (by kernel_rfl) (fun _ => by kernel_rfl)) ?_
    refine eachOp_cons (okM_val (by kernel_rfl) (by kernel_rfl) (by kernel_rfl) (fun _ => by kernel_rfl)) ?_
    refine eachOp_cons (okM_val (by kernel_rfl) (by kernel_rfl) (by kernel_rfl) (fun _ => by kernel_rfl)) ?_
    refine eachOp_cons (okM_val (by kernel_rfl) (by kernel_rfl) (by kernel_rfl) (fun _ => by kernel_rfl)) ?_
    refine eachOp_cons (okM_store 0 rfl (by kernel_rfl) (by kernel_rfl) rfl (fun W hC => by obtain rfl : W = V0 := hC; exact ⟨_, store_int rfl (by kernel_rfl) (by kernel_rfl) s0 g0, hV1⟩)) ?_
    refine eachOp_cons (okM_val (by kernel_rfl) (by kernel_rfl) (by kernel_rfl) (fun _ => by kernel_rfl)) ?_
    refine eachOp_cons (okM_val (by kernel_rfl) (by kernel_rfl) (by kernel_rfl) (fun _ => by kernel_rfl)) ?_
    refine eachOp_cons (okM_val (by kernel_rfl) (by kernel_rfl) (by kernel_rfl) (fun _ => by kernel_rfl)) ?_
    refine eachOp_cons (okM_store 1 rfl (by kernel_rfl) (by kernel_rfl) rfl (fun W hC => by obtain rfl : W = V1 := hC; exact ⟨_, store_int rfl (by kernel_rfl) (by kernel_rfl) s1 g1, hV2⟩)) ?_
    refine eachOp_cons (okM_val (by kernel_rfl) (by kernel_rfl) (by kernel_rfl) (fun _ => by kernel_rfl)) ?_
    refine eachOp_cons (okM_val (by kernel_rfl) (by kernel_rfl) (by kernel_rfl) (fun _ => by kernel_rfl)) ?_
    refine eachOp_cons (okM_val (by kernel_rfl) (by kernel_rfl) (by kernel_rfl) (fun _ => by kernel_rfl)) ?_
    refine eachOp_cons (okM_store 2 rfl (by kernel_rfl) (by kernel_rfl) rfl (fun W hC => by obtain rfl : W = V2 := hC; exact ⟨_, store_int rfl (by kernel_rfl) (by kernel_rfl) s2 g2, hV3⟩)) ?_
    refine eachOp_cons (okM_val (by kernel_rfl) (by kernel_rfl) (by kernel_rfl) (fun _ => by kernel_rfl)) ?_
    refine eachOp_cons (okM_val (by kernel_rfl) (by kernel_rfl) (by kernel_rfl) (fun _ => by kernel_rfl)) ?_
    refine eachOp_cons (okM_val (by kernel_rfl) (by kernel_rfl) (by kernel_rfl) (fun _ => by kernel_rfl)) ?_
    refine eachOp_cons (okM_store 3 rfl (by kernel_rfl) (by kernel_rfl) rfl (fun W hC => by obtain rfl : W = V3 := hC; exact ⟨_, store_int rfl (by kernel_rfl) (by kernel_rfl) s3 g3, hV4⟩)) ?_
    exact eachOp_nil
  intro W hW
  rename_i hK
  refine hK _ _ ?_
  replace hW : W = V4 := hW
  rw [hW]
  clear hW W
  have hwr : IntKind.i64.wrap (B - D) = B - D ∧ IntKind.i64.wrap (A + C) = A + C ∧ IntKind.i64.wrap (B + D) = B + D ∧ IntKind.i64.wrap (C - A) = C - A := ⟨IntWalk.i64_in _ (by omega), IntWalk.i64_in _ (by omega), IntWalk.i64_in _ (by omega), IntWalk.i64_in _ (by omega)⟩
  rw [hwr.1, hwr.2.1, hwr.2.2.1, hwr.2.2.2] at hb4
  simp only [finA, List.take_succ_cons, List.take_zero, List.cons_append, List.nil_append, List.set_cons_succ, List.set_cons_zero]
  clear h0 h1 h2 h3 h4 f0 f1 f2 f3 f4 s0 s1 s2 s3 g0 g2 g3 hV0 hV1 hV2 hV3 hV4 hO0 hb0 hb1 hb2 hb3 HB hwr hK
  obtain ⟨h0, h1, h2, h3, h4⟩ := hb4.cell
  obtain ⟨f0, f1, f2, f3, f4⟩ := hb4.free
  have HB2 := Lib.hid hb4
  have hO2 := Lib.hid hO4
  clear hb4 hO4
  dsimp only at h0 h1 h2 h3 h4
  go_wp2
  go_region
  go_wp2
  go_end0
  have hn : (k - K).toNat = 2 * ((k - K) / 2).toNat + 1 := by have := HE.out; omega
  have hu := upN_odd ((k - K) / 2).toNat ⟨A, B, C, D, K⟩
  rw [← hn] at hu
  have hl := upN_le (k - K).toNat (by omega) HX.out
  have hKK := upN_K (k - K).toNat ⟨A, B, C, D, K⟩
  dsimp only at hKK
  have e5 : (upN (k - K).toNat ⟨A, B, C, D, K⟩).K = k := by rw [hKK]; omega
  unfold Nm.le at hl
  have e1 : wrap64 ((B - D) * 2 ^ ((k - K) / 2).toNat) = (upN (k - K).toNat ⟨A, B, C, D, K⟩).A := by
    have : (upN (k - K).toNat ⟨A, B, C, D, K⟩).A = (B - D) * 2 ^ ((k - K) / 2).toNat := by rw [hu]; rfl
    rw [← this]; exact wr_in (by omega)
  have e2 : wrap64 ((A + C) * 2 ^ ((k - K) / 2).toNat) = (upN (k - K).toNat ⟨A, B, C, D, K⟩).B := by
    have : (upN (k - K).toNat ⟨A, B, C, D, K⟩).B = (A + C) * 2 ^ ((k - K) / 2).toNat := by rw [hu]; rfl
    rw [← this]; exact wr_in (by omega)
  have e3 : wrap64 ((B + D) * 2 ^ ((k - K) / 2).toNat) = (upN (k - K).toNat ⟨A, B, C, D, K⟩).C := by
    have : (upN (k - K).toNat ⟨A, B, C, D, K⟩).C = (B + D) * 2 ^ ((k - K) / 2).toNat := by rw [hu]; rfl
    rw [← this]; exact wr_in (by omega)
  have e4 : wrap64 ((C - A) * 2 ^ ((k - K) / 2).toNat) = (upN (k - K).toNat ⟨A, B, C, D, K⟩).D := by
    have : (upN (k - K).toNat ⟨A, B, C, D, K⟩).D = (C - A) * 2 ^ ((k - K) / 2).toNat := by rw [hu]; rfl
    rw [← this]; exact wr_in (by omega)
  refine ⟨rfl, hO2.out.trans (by repeat (first | with_reducible exact Only.refl _ _ | with_reducible refine Only.set ?_ _ _ | with_reducible refine Only.dN ?_ _ | with_reducible refine Only.drew ?_)), ?_⟩
  unfold Box
  rw [← e1, ← e2, ← e3, ← e4, e5]
  exact heap_set (heap_set (heap_set (heap_set (heap_set HB2.out))))

theorem lift_any (x : Nm) (k : Int) (b T : Nat) (w : World) (hx : x.le 1073741824) (hK : -1000 ≤ x.K ∧ x.K ≤ 1000) (hk : -1000 ≤ k ∧ k ≤ 1000) (hb : Box w b T x) (h60 : k - x.K ≤ 60) :
    Calls Tryz.prog 104 #[.pointer (some ⟨b, 0, none⟩), .int .i64 k] w (Lifted (liftN x k) b T w) := by
  unfold liftN
  split
  · rename_i h
    exact lift_none x k b T w hK hk hb h
  · rename_i h
    rcases Int.emod_two_eq (k - x.K) with e | e
    · exact lift_even x k b T w hx hK hk hb (by omega) h60 e
    · exact lift_odd x k b T w hx hK hk hb (by omega) h60 e
end Go.Proofs.YtcdmcndjbajhlaaGreatDoor
namespace Go.Proofs.YtcdmcndjbajhlaaGreatDoor
open Go.RowKit

/-- lift does to x what it should, at k. -/
def Lifts (x : Nm) (k : Int) : Prop := ∀ (w : World) (b T : Nat), Box w b T x → Calls Tryz.prog 104 #[.pointer (some ⟨b, 0, none⟩), .int .i64 k] w (Lifted (liftN x k) b T w)

set_option maxHeartbeats 4000000 in
theorem plus_core (A B C D K a b c d k m : Int) (r s : Nm) (w : World) (hm : m = if K < k then k else K) (hr : r.le 1152921504606846976) (hs : s.le 1152921504606846976)
    (HLx : Hid (∀ (w : World) (b T : Nat), Box w b T ⟨A, B, C, D, K⟩ → Calls Tryz.prog 104 #[.pointer (some ⟨b, 0, none⟩), .int .i64 m] w (Lifted r b T w)))
    (HLy : Hid (∀ (w : World) (e T : Nat), Box w e T ⟨a, b, c, d, k⟩ → Calls Tryz.prog 104 #[.pointer (some ⟨e, 0, none⟩), .int .i64 m] w (Lifted s e T w))) :
    Calls Tryz.prog 89 #[nv A B C D K, nv a b c d k] w (Gives (nv (r.A + s.A) (r.B + s.B) (r.C + s.C) (r.D + s.D) m) w) := by
  obtain ⟨⟨r1, r2⟩, ⟨r3, r4⟩, ⟨r5, r6⟩, ⟨r7, r8⟩⟩ := hr
  obtain ⟨⟨s1, s2⟩, ⟨s3, s4⟩, ⟨s5, s6⟩, ⟨s7, s8⟩⟩ := hs
  have hW : ∃ W, ((w.alloc (.cells #[.int .i64 A, .int .i64 B, .int .i64 C, .int .i64 D, .int .i64 K] 40)).alloc (.cells #[.int .i64 a, .int .i64 b, .int .i64 c, .int .i64 d, .int .i64 k] 40)).alloc (.cells #[.int .i64 0, .int .i64 0, .int .i64 0, .int .i64 0, .int .i64 0] 40) = W := ⟨_, rfl⟩
  obtain ⟨W, hW⟩ := hW
  have b0 : Box W w.heap.size 40 ⟨A, B, C, D, K⟩ := by rw [← hW]; exact box_al (box_al (box_new w _ _ _ _ _ _) _) _
  have b1 : Box W (w.heap.size + 1) 40 ⟨a, b, c, d, k⟩ := by
    rw [← hW]
    have h := box_new (w.alloc (.cells #[.int .i64 A, .int .i64 B, .int .i64 C, .int .i64 D, .int .i64 K] 40)) a b c d k 40
    simp only [World.size_alloc] at h
    exact box_al h _
  have b2 : Box W (w.heap.size + 1 + 1) 40 nul := by
    rw [← hW]
    have h := box_new ((w.alloc (.cells #[.int .i64 A, .int .i64 B, .int .i64 C, .int .i64 D, .int .i64 K] 40)).alloc (.cells #[.int .i64 a, .int .i64 b, .int .i64 c, .int .i64 d, .int .i64 k] 40)) 0 0 0 0 0 40
    simp only [World.size_alloc] at h
    exact h
  have hbW : Below w.heap.size w W := by rw [← hW]; exact (by repeat (first | with_reducible exact Below.refl _ _ | with_reducible refine below_al ?_ _ | with_reducible refine below_dN ?_ _ | with_reducible refine Below.drew ?_ | (with_reducible refine Below.setCell ?_ (by simp <;> omega) _) | (with_reducible refine below_via (by assumption) ?_)))
  have HW := Lib.hid hW
  clear hW
  have HB := Lib.hid b0
  have HB1 := Lib.hid b1
  have HB2 := Lib.hid b2
  clear b0 b1 b2
  by_cases hlt : K < k
  · rw [if_pos hlt] at hm
    subst hm
    go_enter Tryz.func89, Tryz.ntmps89
    go_wp2_with fail
    rw [HW.out]
    refine (HLx.out _ _ _ HB.out).mono ?_
    rintro e w1 ⟨rfl, ho1, hb1⟩
    have HC0 := Lib.hid hb1
    have HC1 := Lib.hid (HB1.out.only ho1 (by omega))
    have HC2 := Lib.hid (HB2.out.only ho1 (by omega))
    clear hb1
    go_wp2_with fail
    refine (HLy.out _ _ _ HC1.out).mono ?_
    rintro e w2 ⟨rfl, ho2, hb2⟩
    have hd0 := HC0.out.only ho2 (by omega)
    have hd2 := HC2.out.only ho2 (by omega)
    obtain ⟨c0, c1, c2, c3, c4⟩ := hd0.cell
    obtain ⟨d0, d1, d2, d3, d4⟩ := hb2.cell
    obtain ⟨z0, z1, z2, z3, z4⟩ := hd2.cell
    obtain ⟨f0, f1, f2, f3, f4⟩ := hd2.free
    have hw2 : Below w.heap.size w w2 := (hbW.trans (ho1.below (Nat.le_refl _))).trans (ho2.below (by omega))
    clear hd0 hd2 hb2
    go_wp2
    exact bodyPost_ret (v := nv (r.A + s.A) (r.B + s.B) (r.C + s.C) (r.D + s.D) _) (by simp [results, Tryz.results89, go_sem, z0, z1, z2, z3, z4]) rfl ⟨rfl, ((((hw2.setCell (by simp <;> omega) _).setCell (by simp <;> omega) _).setCell (by simp <;> omega) _).setCell (by simp <;> omega) _).setCell (by simp <;> omega) _⟩
  · rw [if_neg hlt] at hm
    subst hm
    go_enter Tryz.func89, Tryz.ntmps89
    go_wp2_with fail
    rw [HW.out]
    refine (HLx.out _ _ _ HB.out).mono ?_
    rintro e w1 ⟨rfl, ho1, hb1⟩
    have HC0 := Lib.hid hb1
    have HC1 := Lib.hid (HB1.out.only ho1 (by omega))
    have HC2 := Lib.hid (HB2.out.only ho1 (by omega))
    clear hb1
    go_wp2_with fail
    refine (HLy.out _ _ _ HC1.out).mono ?_
    rintro e w2 ⟨rfl, ho2, hb2⟩
    have hd0 := HC0.out.only ho2 (by omega)
    have hd2 := HC2.out.only ho2 (by omega)
    obtain ⟨c0, c1, c2, c3, c4⟩ := hd0.cell
    obtain ⟨d0, d1, d2, d3, d4⟩ := hb2.cell
    obtain ⟨z0, z1, z2, z3, z4⟩ := hd2.cell
    obtain ⟨f0, f1, f2, f3, f4⟩ := hd2.free
    have hw2 : Below w.heap.size w w2 := (hbW.trans (ho1.below (Nat.le_refl _))).trans (ho2.below (by omega))
    clear hd0 hd2 hb2
    go_wp2
    exact bodyPost_ret (v := nv (r.A + s.A) (r.B + s.B) (r.C + s.C) (r.D + s.D) _) (by simp [results, Tryz.results89, go_sem, z0, z1, z2, z3, z4]) rfl ⟨rfl, ((((hw2.setCell (by simp <;> omega) _).setCell (by simp <;> omega) _).setCell (by simp <;> omega) _).setCell (by simp <;> omega) _).setCell (by simp <;> omega) _⟩

theorem plus_any (A B C D K a b c d k : Int) (w : World) (hx : Nm.le ⟨A, B, C, D, K⟩ 1073741824) (hy : Nm.le ⟨a, b, c, d, k⟩ 1073741824) (hK : 0 ≤ K ∧ K ≤ 60) (hk : 0 ≤ k ∧ k ≤ 60)
    (HLx : Lifts ⟨A, B, C, D, K⟩ (max K k)) (HLy : Lifts ⟨a, b, c, d, k⟩ (max K k)) :
    Calls Tryz.prog 89 #[nv A B C D K, nv a b c d k] w (Gives (addN ⟨A, B, C, D, K⟩ ⟨a, b, c, d, k⟩).v w) := by
  have hm : max K k = if K < k then k else K := by rw [Int.max_def]; split <;> split <;> omega
  exact plus_core A B C D K a b c d k (max K k) _ _ w hm (liftN_le (by dsimp only; omega) hx) (liftN_le (by dsimp only; omega) hy) HLx HLy
end Go.Proofs.YtcdmcndjbajhlaaGreatDoor
