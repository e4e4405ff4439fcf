
/- RingSmall, for all worlds: the walk. -/
import Derived.Test.YtcdmcndjbajhlaaGreatDoorJh
set_option linter.all false
set_option maxRecDepth 100000
namespace Go.Proofs.YtcdmcndjbajhlaaGreatDoor
open Go.RowKit Go.Shelf

/-- The operations on strings in a region, one by one. -/
theorem small_lo {o : Oper} {a : Act} {s t : Operand} {b : ByteArray} {n : Nat} {W : World} (ho : o.op = .slice 9 s none (some t) none) (hs : a.eval s = .string b) (ht : a.eval t = .int .i64 n) (hn : (n : Int) ≤ b.size) : (execOp a.eval o).run Tryz.prog W = .ok (.value (.string (b.extract 0 n))) W := by
  obtain ⟨dst, op, ty, pos, af, gd⟩ := o
  dsimp only at ho
  subst ho
  generalize a.eval = e at *
  simp [go_sem, hs, ht, hn]
theorem small_hi {o : Oper} {a : Act} {s t : Operand} {b : ByteArray} {n : Nat} {W : World} (ho : o.op = .slice 9 s (some t) none none) (hs : a.eval s = .string b) (ht : a.eval t = .int .i64 n) (hn : (n : Int) ≤ b.size) : (execOp a.eval o).run Tryz.prog W = .ok (.value (.string (b.extract n b.size))) W := by
  obtain ⟨dst, op, ty, pos, af, gd⟩ := o
  dsimp only at ho
  subst ho
  generalize a.eval = e at *
  simp [go_sem, hs, ht, hn]
theorem small_cat {o : Oper} {a : Act} {s t : Operand} {b c : ByteArray} {W : World} (ho : o.op = .binOp .add 9 s t 9) (hs : a.eval s = .string b) (ht : a.eval t = .string c) (hz : b.size + c.size ≤ 9223372036854775807) : (execOp a.eval o).run Tryz.prog W = .ok (.value (.string (b ++ c))) W := by
  obtain ⟨dst, op, ty, pos, af, gd⟩ := o
  dsimp only at ho
  subst ho
  generalize a.eval = e at *
  simp [go_sem, hs, ht, hz]
theorem small_len {o : Oper} {a : Act} {s : Operand} {b : ByteArray} {W : World} (ho : o.op = .call { callee := .builtin .len, args := #[s], argTypes := #[9] }) (hs : a.eval s = .string b) : (execOp a.eval o).run Tryz.prog W = .ok (.value (.int .i64 b.size)) W := by
  obtain ⟨dst, op, ty, pos, af, gd⟩ := o
  dsimp only at ho
  subst ho
  generalize a.eval = e at *
  simp [go_sem, hs]
theorem small_lss {o : Oper} {a : Act} {s t : Operand} {m n : Int} {r : Bool} {W : World} (ho : o.op = .binOp .lss 3 s t 3) (hs : a.eval s = .int .i64 m) (ht : a.eval t = .int .i64 n) (hr : decide (m < n) = r) : (execOp a.eval o).run Tryz.prog W = .ok (.value (.bool r)) W := by
  obtain ⟨dst, op, ty, pos, af, gd⟩ := o
  dsimp only at ho
  subst ho
  subst hr
  generalize a.eval = e at *
  simp [go_sem, hs, ht]
theorem small_add1 {o : Oper} {a : Act} {s t : Operand} {n : Nat} {W : World} (ho : o.op = .binOp .add 3 s t 3) (hs : a.eval s = .int .i64 n) (ht : a.eval t = .int .i64 1) (hn : n < 1000) : (execOp a.eval o).run Tryz.prog W = .ok (.value (.int .i64 ((n + 1 : Nat) : Int))) W := by
  obtain ⟨dst, op, ty, pos, af, gd⟩ := o
  dsimp only at ho
  subst ho
  have h1 : IntKind.i64.wrap ((n : Int) + 1) = (n : Int) + 1 := by rw [IntKind.wrap_i64]; omega
  generalize a.eval = e at *
  simp [go_sem, hs, ht, h1]

set_option maxHeartbeats 16000000 in
theorem RingSmall_any (w : World) (hv : Vars w) : Calls Tryz.prog 3 #[] w (Gives (.bool true) w) := by
  have HN : Hid (∀ A B C D K w, Calls Tryz.prog 4 #[.int .i64 A, .int .i64 B, .int .i64 C, .int .i64 D, .int .i64 K] w (Gives (nv A B C D K) w)) := fun A B C D K w => num_any A B C D K w
  have HA : Hid (∀ (x y : Nm) w', Below w.heap.size w w' → Calls Tryz.prog 5 #[x.v, y.v] w' (Gives (.bool true) w')) := fun x y w' hb => asked_any x y w' (hv.below hb)
  have HT : Hid (∀ (x : Nm) s w', s.size ≤ 9223372036854775807 → Below w.heap.size w w' → Calls Tryz.prog 7 #[x.v, .string s] w' (Gives (.bool true) w')) := fun x s w' hs hb => RingTexts_any x s w' (hv.below hb) hs
  have HT1 : Hid (∀ s w', s.size ≤ 9223372036854775807 → Below w.heap.size w w' → Calls Tryz.prog 7 #[nv 1 0 0 0 0, .string s] w' (Gives (.bool true) w')) := fun s w' hs hb => HT.out ⟨1, 0, 0, 0, 0⟩ s w' hs hb
  have HT0 : Hid (∀ s w', s.size ≤ 9223372036854775807 → Below w.heap.size w w' → Calls Tryz.prog 7 #[nv 0 0 0 0 0, .string s] w' (Gives (.bool true) w')) := fun s w' hs hb => HT.out ⟨0, 0, 0, 0, 0⟩ s w' hs hb
  have HP0 : Hid (∀ (x : Nm) (n k : Int) w', -9223372036854775808 ≤ n → n ≤ 9223372036854775807 → Below w.heap.size w w' → Calls Tryz.prog 8 #[x.v, .int .i64 n, .int .i64 k, .slice none 0 0] w' (Gives (.bool true) w')) := fun x n k w' h0 h1 hb => RingPowers_none x n k h0 h1 none 0 (fun _ => rfl) w' (hv.below hb)
  have HP3 : Hid (∀ (x y z u : Nm) (n k : Int) b w', -9223372036854775808 ≤ n → n ≤ 9223372036854775807 → Row w' b 0 [y, z, u] → Below w.heap.size w w' → Calls Tryz.prog 8 #[x.v, .int .i64 n, .int .i64 k, .slice (some ⟨b, 0, none⟩) 3 3] w' (Gives (.bool true) w')) := fun x y z u n k b w' h0 h1 hr hb => RingPowers_row x n k h0 h1 [y, z, u] b 0 3 (by simp) w' hr (hv.below hb)
  have HR : Hid (∀ (x : Nm) w', x.chk = 0 → Below w.heap.size w w' → Calls Tryz.prog 6 #[x.v] w' (Gives (.tuple #[.string (printT x.least), .int .i64 0]) w')) := fun x w' hc hb => by
    have := Print_any x.A x.B x.C x.D x.K w' (hv.below hb).1 (hv.below hb).2.2
    rw [show chk x.A x.B x.C x.D x.K = 0 from hc] at this
    exact this
  have HW : Hid (∀ w', Below w.heap.size w w' → Calls Tryz.prog 9 #[] w' (Gives (.bool true) w')) := fun w' hb => awake_below hv hb
  clear hv
  go_enter Tryz.func3, Tryz.ntmps3
  go_wp2_with fail
  refine (HN.out _ _ _ _ _ _).mono ?_
  rintro e u1 ⟨rfl, hb1⟩
  go_wp2_with fail
  refine (HN.out _ _ _ _ _ _).mono ?_
  rintro e u2 ⟨rfl, hb2⟩
  have hb2 := below_via hb2 hb1
  clear hb1
  go_wp2_with fail
  refine (HN.out _ _ _ _ _ _).mono ?_
  rintro e u3 ⟨rfl, hb3⟩
  have hb3 := below_via hb3 hb2
  clear hb2
  go_wp2_with fail
  refine (HN.out _ _ _ _ _ _).mono ?_
  rintro e u4 ⟨rfl, hb4⟩
  have hb4 := below_via hb4 hb3
  clear hb3
  go_wp2_with fail
  refine (HN.out _ _ _ _ _ _).mono ?_
  rintro e u5 ⟨rfl, hb5⟩
  have hb5 := below_via hb5 hb4
  clear hb4
  go_wp2_with fail
  refine (HN.out _ _ _ _ _ _).mono ?_
  rintro e u6 ⟨rfl, hb6⟩
  have hb6 := below_via hb6 hb5
  clear hb5
  go_wp2_with fail
  have HRW := Lib.hid (Row.new u6 #[.int .i64 1, .int .i64 0, .int .i64 0, .int .i64 0, .int .i64 0, .int .i64 0, .int .i64 1, .int .i64 0, .int .i64 (-1), .int .i64 1, .int .i64 2, .int .i64 1, .int .i64 0, .int .i64 (-1), .int .i64 3, .int .i64 (-1), .int .i64 1, .int .i64 1, .int .i64 0, .int .i64 2, .int .i64 3, .int .i64 0, .int .i64 0, .int .i64 0, .int .i64 0, .int .i64 0, .int .i64 0, .int .i64 0, .int .i64 0, .int .i64 5] 23 S6 rfl)
  obtain ⟨V, hV⟩ : ∃ V, u6.alloc (.cells #[.int .i64 1, .int .i64 0, .int .i64 0, .int .i64 0, .int .i64 0, .int .i64 0, .int .i64 1, .int .i64 0, .int .i64 (-1), .int .i64 1, .int .i64 2, .int .i64 1, .int .i64 0, .int .i64 (-1), .int .i64 3, .int .i64 (-1), .int .i64 1, .int .i64 1, .int .i64 0, .int .i64 2, .int .i64 3, .int .i64 0, .int .i64 0, .int .i64 0, .int .i64 0, .int .i64 0, .int .i64 0, .int .i64 0, .int .i64 0, .int .i64 5] 23) = V := ⟨_, rfl⟩
  have hbV := below_al hb6 (.cells #[.int .i64 1, .int .i64 0, .int .i64 0, .int .i64 0, .int .i64 0, .int .i64 0, .int .i64 1, .int .i64 0, .int .i64 (-1), .int .i64 1, .int .i64 2, .int .i64 1, .int .i64 0, .int .i64 (-1), .int .i64 3, .int .i64 (-1), .int .i64 1, .int .i64 1, .int .i64 0, .int .i64 2, .int .i64 3, .int .i64 0, .int .i64 0, .int .i64 0, .int .i64 0, .int .i64 0, .int .i64 0, .int .i64 0, .int .i64 0, .int .i64 5] 23)
  rw [hV] at HRW hbV ⊢
  have HJ : Hid (Below w.heap.size w V ∧ Row V u6.heap.size 0 S6) := ⟨hbV, HRW.out⟩
  clear hV hbV HRW hb6
  generalize u6.heap.size = bs at *
  go_loopw [31] (fun i wr => ∃ k : Nat, k ≤ 81 ∧ i = .int .i64 k ∧ Hid (Below w.heap.size w wr ∧ Row wr bs 0 S6)) (fun i _ => 81 - (intOf i).toNat)
  case atStart => exact ⟨0, by omega, rfl, HJ⟩
  case round =>
    obtain ⟨k, hk, rfl, HJ⟩ := hrel
    by_cases hlt : k < 81
    · have hk0 : (0 : Int) ≤ k := by omega
      go_wp2_with fail
      refine (HN.out _ _ _ _ _ _).mono ?_
      rintro e v1 ⟨rfl, hb1⟩
      have hc := chk_small hlt
      generalize (k : Int) % 3 - 1 = A at *
      generalize (k : Int) / 3 % 3 - 1 = B at *
      generalize (k : Int) / 9 % 3 - 1 = C at *
      generalize (k : Int) / 27 - 1 = D at *
      generalize (k : Int) % 4 = K at *
      have HC := Lib.hid hc
      have hbx := below_al (below_via hb1 HJ.out.1) (.cells #[.int .i64 A, .int .i64 B, .int .i64 C, .int .i64 D, .int .i64 K] 23)
      have hrx := (HJ.out.2.below hb1).below ((Below.refl _ v1).alloc (Nat.le_refl _) (.cells #[.int .i64 A, .int .i64 B, .int .i64 C, .int .i64 D, .int .i64 K] 23))
      have hxx := box_new v1 A B C D K 23
      have HI : Hid (Below w.heap.size w (v1.alloc (.cells #[.int .i64 A, .int .i64 B, .int .i64 C, .int .i64 D, .int .i64 K] 23)) ∧ Row (v1.alloc (.cells #[.int .i64 A, .int .i64 B, .int .i64 C, .int .i64 D, .int .i64 K] 23)) bs 0 S6 ∧ Box (v1.alloc (.cells #[.int .i64 A, .int .i64 B, .int .i64 C, .int .i64 D, .int .i64 K] 23)) v1.heap.size 23 ⟨A, B, C, D, K⟩) := ⟨hbx, hrx, hxx⟩
      clear hc hb1 hbx hrx hxx HJ
      go_wp2_with fail
      obtain ⟨wo, hwo⟩ : ∃ wo, v1.alloc (.cells #[.int .i64 A, .int .i64 B, .int .i64 C, .int .i64 D, .int .i64 K] 23) = wo := ⟨_, rfl⟩
      rw [hwo] at HI ⊢
      clear hwo
      generalize v1.heap.size = bx at *
      go_loopw [53] (fun i wx => ∃ j : Nat, j ≤ 6 ∧ i = .int .i64 j ∧ Hid (Below w.heap.size w wx ∧ Row wx bs 0 S6 ∧ Box wx bx 23 ⟨A, B, C, D, K⟩)) (fun i _ => 6 - (intOf i).toNat)
      case atStart => exact ⟨0, by omega, rfl, HI⟩
      case round =>
        obtain ⟨j, hj, rfl, HI⟩ := hrel
        obtain ⟨x0, x1, x2, x3, x4⟩ := HI.out.2.2.cell
        have hxl := HI.out.2.2.lt
        have hbsl := HI.out.2.1.1
        dsimp only at x0 x1 x2 x3 x4
        by_cases hlj : j < 6
        · obtain ⟨y, hy⟩ : ∃ y, S6[j]? = some y := ⟨_, List.getElem?_eq_getElem hlj⟩
          obtain ⟨y0, y1, y2, y3, y4⟩ := HI.out.2.1.at0 hy
          have hH := HI.out
          have HY := Lib.hid (show Below w.heap.size w (wr.alloc (.cells #[.int .i64 y.A, .int .i64 y.B, .int .i64 y.C, .int .i64 y.D, .int .i64 y.K] 23)) ∧ Row (wr.alloc (.cells #[.int .i64 y.A, .int .i64 y.B, .int .i64 y.C, .int .i64 y.D, .int .i64 y.K] 23)) bs 0 S6 ∧ Box (wr.alloc (.cells #[.int .i64 y.A, .int .i64 y.B, .int .i64 y.C, .int .i64 y.D, .int .i64 y.K] 23)) bx 23 ⟨A, B, C, D, K⟩ ∧ Box (wr.alloc (.cells #[.int .i64 y.A, .int .i64 y.B, .int .i64 y.C, .int .i64 y.D, .int .i64 y.K] 23)) wr.heap.size 23 y from
            ⟨below_al hH.1 _, hH.2.1.below ((Below.refl _ wr).alloc (Nat.le_refl _) _), box_al hH.2.2 _, box_new wr y.A y.B y.C y.D y.K _⟩)
          clear hy hH HI
          go_wp2_with fail
          refine (HA.out ⟨A, B, C, D, K⟩ y _ HY.out.1).mono ?_
          rintro e v2 ⟨rfl, hb2⟩
          have hz := HY.out
          have HZ := Lib.hid (show Below w.heap.size w v2 ∧ Row v2 bs 0 S6 ∧ Box v2 bx 23 ⟨A, B, C, D, K⟩ ∧ Box v2 wr.heap.size 23 y from ⟨below_via hb2 hz.1, hz.2.1.below hb2, hz.2.2.1.below hb2 hz.2.2.1.lt, hz.2.2.2.below hb2 hz.2.2.2.lt⟩)
          clear hz HY hb2 x0 x1 x2 x3 x4 y0 y1 y2 y3 y4 hxl hbsl
          obtain ⟨x0, x1, x2, x3, x4⟩ := HZ.out.2.2.1.cell
          obtain ⟨y0, y1, y2, y3, y4⟩ := HZ.out.2.2.2.cell
          have hxl := HZ.out.2.2.1.lt
          have hyl := HZ.out.2.2.2.lt
          dsimp only at x0 x1 x2 x3 x4 y0 y1 y2 y3 y4
          go_wp2_with fail
          refine (HA.out y ⟨A, B, C, D, K⟩ _ HZ.out.1).mono ?_
          rintro e v3 ⟨rfl, hb3⟩
          have hz := HZ.out
          have HQ := Lib.hid (show Below w.heap.size w v3 ∧ Row v3 bs 0 S6 ∧ Box v3 bx 23 ⟨A, B, C, D, K⟩ from ⟨below_via hb3 hz.1, hz.2.1.below hb3, hz.2.2.1.below hb3 hz.2.2.1.lt⟩)
          clear hz HZ hb3 x0 x1 x2 x3 x4 y0 y1 y2 y3 y4 hxl hyl
          go_wp2_with fail
          go_roundw
          case rel => exact ⟨j + 1, by omega, by go_num, HQ⟩
          case measure => simp [intOf]; omega
        · have hs := print_small HC.out
          have hpr := HR.out ⟨A, B, C, D, K⟩ wr HC.out HI.out.1
          generalize printT (Nm.least ⟨A, B, C, D, K⟩) = s at *
          have HPR := Lib.hid hpr
          clear hpr
          go_wp2_with fail
          refine HPR.out.mono ?_
          rintro e v2 ⟨rfl, hb2⟩
          have hz := HI.out
          have HZ := Lib.hid (show Below w.heap.size w v2 ∧ Row v2 bs 0 S6 ∧ Box v2 bx 23 ⟨A, B, C, D, K⟩ from ⟨below_via hb2 hz.1, hz.2.1.below hb2, hz.2.2.below hb2 hz.2.2.lt⟩)
          clear hz HI hb2 x0 x1 x2 x3 x4 hxl hbsl HPR
          obtain ⟨x0, x1, x2, x3, x4⟩ := HZ.out.2.2.cell
          have hxl := HZ.out.2.2.lt
          dsimp only at x0 x1 x2 x3 x4
          go_wp2_with fail
          refine (HT.out ⟨A, B, C, D, K⟩ s _ hs HZ.out.1).mono ?_
          rintro e v3 ⟨rfl, hb3⟩
          have hz := HZ.out
          have HQ := Lib.hid (show Below w.heap.size w v3 ∧ Row v3 bs 0 S6 from ⟨below_via hb3 hz.1, hz.2.1.below hb3⟩)
          clear hz HZ hb3 x0 x1 x2 x3 x4 hxl
          go_wp2_with fail
          go_roundw
          case rel => exact ⟨k + 1, by omega, by go_num, HQ⟩
          case measure => simp [intOf]; omega
    · have hbk81 : decide ((k : Int) < 81) = false := decide_eq_false (by omega)
      have HB := Lib.hid (below_al HJ.out.1 (.cells #[.int .i64 (-9223372036854775808), .int .i64 (-1073741825), .int .i64 (-1073741824), .int .i64 (-1073741823), .int .i64 (-4097), .int .i64 (-4096), .int .i64 (-2), .int .i64 0, .int .i64 1, .int .i64 4096, .int .i64 4097, .int .i64 1073741823, .int .i64 1073741824, .int .i64 1073741825, .int .i64 9223372036854775807] 3))
      have HI := Lib.hid (IRow.new wr #[.int .i64 (-9223372036854775808), .int .i64 (-1073741825), .int .i64 (-1073741824), .int .i64 (-1073741823), .int .i64 (-4097), .int .i64 (-4096), .int .i64 (-2), .int .i64 0, .int .i64 1, .int .i64 4096, .int .i64 4097, .int .i64 1073741823, .int .i64 1073741824, .int .i64 1073741825, .int .i64 9223372036854775807] 3 I15 rfl)
      clear HJ
      go_wp2_with fail
      obtain ⟨V2, hV2⟩ : ∃ V2, wr.alloc (.cells #[.int .i64 (-9223372036854775808), .int .i64 (-1073741825), .int .i64 (-1073741824), .int .i64 (-1073741823), .int .i64 (-4097), .int .i64 (-4096), .int .i64 (-2), .int .i64 0, .int .i64 1, .int .i64 4096, .int .i64 4097, .int .i64 1073741823, .int .i64 1073741824, .int .i64 1073741825, .int .i64 9223372036854775807] 3) = V2 := ⟨_, rfl⟩
      rw [hV2] at HB HI ⊢
      clear hV2
      generalize wr.heap.size = bl at *
      have HJ2 : Hid (Below w.heap.size w V2 ∧ IRow V2 bl I15) := ⟨HB.out, HI.out⟩
      clear HB HI
      go_loopw [85] (fun i wx => ∃ k : Nat, k ≤ 15 ∧ i = .int .i64 k ∧ Hid (Below w.heap.size w wx ∧ IRow wx bl I15)) (fun i _ => 15 - (intOf i).toNat)
      case atStart => exact ⟨0, by omega, rfl, HJ2⟩
      case round =>
        obtain ⟨k, hk, rfl, HJ⟩ := hrel
        by_cases hlt : k < 15
        · have hbk15 : decide ((k : Int) < 15) = true := decide_eq_true (by omega)
          obtain ⟨v, hv⟩ : ∃ v, I15[k]? = some v := ⟨_, List.getElem?_eq_getElem hlt⟩
          have c0 := HJ.out.2.2 k v hv
          obtain ⟨hv0, hv1⟩ := I15_in hv
          have hbll := HJ.out.2.1
          have HB := Lib.hid (below_al HJ.out.1 (.cells #[.int .i64 (-9223372036854775808), .int .i64 (-1), .int .i64 0, .int .i64 1, .int .i64 2, .int .i64 59, .int .i64 60, .int .i64 61, .int .i64 9223372036854775807] 3))
          have HI := Lib.hid (HJ.out.2.below ((Below.refl _ wr).alloc (Nat.le_refl _) (.cells #[.int .i64 (-9223372036854775808), .int .i64 (-1), .int .i64 0, .int .i64 1, .int .i64 2, .int .i64 59, .int .i64 60, .int .i64 61, .int .i64 9223372036854775807] 3)))
          have HK := Lib.hid (IRow.new wr #[.int .i64 (-9223372036854775808), .int .i64 (-1), .int .i64 0, .int .i64 1, .int .i64 2, .int .i64 59, .int .i64 60, .int .i64 61, .int .i64 9223372036854775807] 3 I9 rfl)
          clear hv HJ
          go_wp2_with fail
          obtain ⟨V3, hV3⟩ : ∃ V3, wr.alloc (.cells #[.int .i64 (-9223372036854775808), .int .i64 (-1), .int .i64 0, .int .i64 1, .int .i64 2, .int .i64 59, .int .i64 60, .int .i64 61, .int .i64 9223372036854775807] 3) = V3 := ⟨_, rfl⟩
          rw [hV3] at HB HI HK ⊢
          clear hV3 c0 hbll
          generalize wr.heap.size = bm at *
          have HJ3 : Hid (Below w.heap.size w V3 ∧ IRow V3 bl I15 ∧ IRow V3 bm I9) := ⟨HB.out, HI.out, HK.out⟩
          clear HB HI HK
          go_loopw [91] (fun i wx => ∃ j : Nat, j ≤ 9 ∧ i = .int .i64 j ∧ Hid (Below w.heap.size w wx ∧ IRow wx bl I15 ∧ IRow wx bm I9)) (fun i _ => 9 - (intOf i).toNat)
          case atStart => exact ⟨0, by omega, rfl, HJ3⟩
          case round =>
            obtain ⟨j, hj, rfl, HJ⟩ := hrel
            by_cases hlj : j < 9
            · have hbj9 : decide ((j : Int) < 9) = true := decide_eq_true (by omega)
              obtain ⟨q, hq⟩ : ∃ q, I9[j]? = some q := ⟨_, List.getElem?_eq_getElem hlj⟩
              have c0 := HJ.out.2.2.2 j q hq
              obtain ⟨hq0, hq1⟩ := I9_in hq
              have hbml := HJ.out.2.2.1
              clear hq
              go_wp2_with fail
              clear c0 hbml
              obtain ⟨wp, hwp⟩ : ∃ wp, wp = wr := ⟨_, rfl⟩
              rw [← hwp] at HJ ⊢
              clear hwp
              go_loopw [95] (fun i wx => ∃ t : Nat, t ≤ 4 ∧ i = .int .i64 t ∧ Hid (Below w.heap.size w wx ∧ IRow wx bl I15 ∧ IRow wx bm I9)) (fun i _ => 4 - (intOf i).toNat)
              case atStart => exact ⟨0, by omega, rfl, HJ⟩
              case round =>
                obtain ⟨t, ht, rfl, HJ⟩ := hrel
                by_cases hlt4 : t < 4
                · have hbt4 : decide ((t : Int) < 4) = true := decide_eq_true (by omega)
                  go_wp2_with fail
                  refine (HN.out _ _ _ _ _ _).mono ?_
                  rintro e v1 ⟨rfl, hb1⟩
                  have hx := box_new v1 1 0 1 0 q 23
                  have hbB := below_al (below_via hb1 HJ.out.1) (.cells #[.int .i64 1, .int .i64 0, .int .i64 1, .int .i64 0, .int .i64 q] 23)
                  have hI1 := (HJ.out.2.1.below hb1).below ((Below.refl _ v1).alloc (Nat.le_refl _) (.cells #[.int .i64 1, .int .i64 0, .int .i64 1, .int .i64 0, .int .i64 q] 23))
                  have hI2 := (HJ.out.2.2.below hb1).below ((Below.refl _ v1).alloc (Nat.le_refl _) (.cells #[.int .i64 1, .int .i64 0, .int .i64 1, .int .i64 0, .int .i64 q] 23))
                  have hbs1 : w.heap.size ≤ v1.heap.size := (below_via hb1 HJ.out.1).size
                  have hlb1 : bl < v1.heap.size := (HJ.out.2.1.below hb1).1
                  have hlb2 : bm < v1.heap.size := (HJ.out.2.2.below hb1).1
                  go_upto_region 27 with fail
                  obtain ⟨V4, hV4⟩ : ∃ V4, v1.alloc (.cells #[.int .i64 1, .int .i64 0, .int .i64 1, .int .i64 0, .int .i64 q] 23) = V4 := ⟨_, rfl⟩
                  rw [hV4] at hx hbB hI1 hI2 ⊢
                  clear hV4 hb1
                  generalize v1.heap.size = bx at *
                  obtain ⟨x0, x1, x2, x3, x4⟩ := hx.cell
                  obtain ⟨f0, f1, f2, f3, f4⟩ := hx.free
                  have hxl := hx.lt
                  dsimp only at x0 x1 x2 x3 x4
                  have HX := Lib.hid hx
                  have HB := Lib.hid hbB
                  have H1 := Lib.hid hI1
                  have H2 := Lib.hid hI2
                  clear hx hbB hI1 hI2
                  go_cut [14] from 100 to 109 (fun p wx => p = .pointer (some ⟨bx, 0, none⟩) ∧ ∃ y : Nm, Below w.heap.size w wx ∧ IRow wx bl I15 ∧ IRow wx bm I9 ∧ Box wx bx 23 y)
                  case first =>
                    rcases (by omega : t = 0 ∨ t = 1 ∨ t = 2 ∨ t = 3) with rfl | rfl | rfl | rfl
                    all_goals
                      go_wp2_with fail
                      go_meet
                      first | (obtain ⟨y, hy⟩ := box_set HX.out 0 (by omega) v; exact ⟨rfl, y, below_al (HB.out.setCell hbs1 _) _, (H1.out.other (by omega)).al _, (H2.out.other (by omega)).al _, box_al hy _⟩) | (obtain ⟨y, hy⟩ := box_set HX.out 1 (by omega) v; exact ⟨rfl, y, below_al (HB.out.setCell hbs1 _) _, (H1.out.other (by omega)).al _, (H2.out.other (by omega)).al _, box_al hy _⟩) | (obtain ⟨y, hy⟩ := box_set HX.out 2 (by omega) v; exact ⟨rfl, y, below_al (HB.out.setCell hbs1 _) _, (H1.out.other (by omega)).al _, (H2.out.other (by omega)).al _, box_al hy _⟩) | (obtain ⟨y, hy⟩ := box_set HX.out 3 (by omega) v; exact ⟨rfl, y, below_al (HB.out.setCell hbs1 _) _, (H1.out.other (by omega)).al _, (H2.out.other (by omega)).al _, box_al hy _⟩)
                  case rest =>
                    obtain ⟨rfl, y, hB, hI1, hI2, hY⟩ := hcut
                    clear x0 x1 x2 x3 x4 f0 f1 f2 f3 f4 hxl HX HB H1 H2 hbs1 hlb1 hlb2
                    obtain ⟨x0, x1, x2, x3, x4⟩ := hY.cell
                    have hxl := hY.lt
                    have HX := Lib.hid hY
                    have HB := Lib.hid hB
                    have H1 := Lib.hid hI1
                    have H2 := Lib.hid hI2
                    clear hB hI1 hI2 hY
                    go_wp2_with fail
                    go_cut [117, 118, 119] from 110 to 119 (fun a b c wx => ∃ g, a = .slice (some ⟨g, 0, none⟩) 4 4 ∧ b = .int .i64 4 ∧ c = .int .i64 0 ∧ Below w.heap.size w wx ∧ IRow wx bl I15 ∧ IRow wx bm I9 ∧ Box wx bx 23 y ∧ Row wx g 0 [⟨v, 0, 0, 0, 60⟩, ⟨1, 1, 0, 0, 1⟩, ⟨0, v, v, 0, 0⟩, y])
                    case first =>
                      go_region_held3 (fun w' => Below wc.heap.size wc w' ∧ (∀ b o, b < wc.heap.size → w'.cell? ⟨b, o, none⟩ = wc.cell? ⟨b, o, none⟩)) ((exact (fun h => ⟨h, (bcell h).1⟩) (by repeat (first | with_reducible exact Below.refl _ _ | with_reducible refine below_al ?_ _ | with_reducible refine below_dN ?_ _ | with_reducible refine Below.drew ?_ | (with_reducible refine Below.setCell ?_ (by simp <;> omega) _) | (with_reducible refine below_via (by assumption) ?_))))) (first | (go_at_call 4; (with_reducible refine (HN.out _ _ _ _ _ _).mono ?_); rintro e wz ⟨rfl, hw⟩; (try replace hw := below_undrew hw); obtain ⟨hcw, hfw⟩ := bcell hw; have hz := hw.size; (try simp at hz); (have hzx : bx < wz.heap.size := (by omega))))
                      all_goals
                        go_wp2_with fail
                        go_meet
                        refine ⟨_, rfl, rfl, rfl, below_via (by repeat (first | with_reducible exact Below.refl _ _ | with_reducible refine below_al ?_ _ | with_reducible refine below_dN ?_ _ | with_reducible refine Below.drew ?_ | (with_reducible refine Below.setCell ?_ (by simp <;> omega) _) | (with_reducible refine below_via (by assumption) ?_))) HB.out, H1.out.below (by repeat (first | with_reducible exact Below.refl _ _ | with_reducible refine below_al ?_ _ | with_reducible refine below_dN ?_ _ | with_reducible refine Below.drew ?_ | (with_reducible refine Below.setCell ?_ (by simp <;> omega) _) | (with_reducible refine below_via (by assumption) ?_))), H2.out.below (by repeat (first | with_reducible exact Below.refl _ _ | with_reducible refine below_al ?_ _ | with_reducible refine below_dN ?_ _ | with_reducible refine Below.drew ?_ | (with_reducible refine Below.setCell ?_ (by simp <;> omega) _) | (with_reducible refine below_via (by assumption) ?_))), HX.out.below (by repeat (first | with_reducible exact Below.refl _ _ | with_reducible refine below_al ?_ _ | with_reducible refine below_dN ?_ _ | with_reducible refine Below.drew ?_ | (with_reducible refine Below.setCell ?_ (by simp <;> omega) _) | (with_reducible refine below_via (by assumption) ?_))) HX.out.lt, Row.new _ _ _ _ rfl⟩
                    case rest =>
                      obtain ⟨g, rfl, rfl, rfl, hB, hI1, hI2, hY, hR⟩ := hcut
                      obtain ⟨L, hL4, hR⟩ : ∃ L : List Nm, L.length = 4 ∧ Row wc g 0 L := ⟨_, rfl, hR⟩
                      have HJ6 : Hid (Below w.heap.size w wc ∧ IRow wc bl I15 ∧ IRow wc bm I9 ∧ Box wc bx 23 y ∧ Row wc g 0 L) := ⟨hB, hI1, hI2, hY, hR⟩
                      clear hB hI1 hI2 hY hR x0 x1 x2 x3 x4 hxl HX HB H1 H2
                      go_wp2_with fail
                      go_loopw [119] (fun i wx => ∃ m : Nat, m ≤ 4 ∧ i = .int .i64 m ∧ Hid (Below w.heap.size w wx ∧ IRow wx bl I15 ∧ IRow wx bm I9 ∧ Box wx bx 23 y ∧ Row wx g 0 L)) (fun i _ => 4 - (intOf i).toNat)
                      case atStart => exact ⟨0, by omega, rfl, HJ6⟩
                      case round =>
                        obtain ⟨m, hm, rfl, HI⟩ := hrel
                        by_cases hlm : m < 4
                        · have hbm4 : decide ((m : Int) < 4) = true := decide_eq_true (by omega)
                          obtain ⟨z, hz⟩ : ∃ z, L[m]? = some z := ⟨_, List.getElem?_eq_getElem (by omega)⟩
                          obtain ⟨x0, x1, x2, x3, x4⟩ := HI.out.2.2.2.1.cell
                          obtain ⟨z0, z1, z2, z3, z4⟩ := HI.out.2.2.2.2.at0 hz
                          have hxl := HI.out.2.2.2.1.lt
                          have hgl := HI.out.2.2.2.2.1
                          have h := HI.out
                          have HY := Lib.hid (show Below w.heap.size w (wr.alloc (.cells #[.int .i64 z.A, .int .i64 z.B, .int .i64 z.C, .int .i64 z.D, .int .i64 z.K] 23)) ∧ IRow (wr.alloc (.cells #[.int .i64 z.A, .int .i64 z.B, .int .i64 z.C, .int .i64 z.D, .int .i64 z.K] 23)) bl I15 ∧ IRow (wr.alloc (.cells #[.int .i64 z.A, .int .i64 z.B, .int .i64 z.C, .int .i64 z.D, .int .i64 z.K] 23)) bm I9 ∧ Box (wr.alloc (.cells #[.int .i64 z.A, .int .i64 z.B, .int .i64 z.C, .int .i64 z.D, .int .i64 z.K] 23)) bx 23 y ∧ Row (wr.alloc (.cells #[.int .i64 z.A, .int .i64 z.B, .int .i64 z.C, .int .i64 z.D, .int .i64 z.K] 23)) g 0 L ∧ Box (wr.alloc (.cells #[.int .i64 z.A, .int .i64 z.B, .int .i64 z.C, .int .i64 z.D, .int .i64 z.K] 23)) wr.heap.size 23 z from
                            ⟨below_al h.1 _, h.2.1.al _, h.2.2.1.al _, box_al h.2.2.2.1 _, h.2.2.2.2.below ((Below.refl _ wr).alloc (Nat.le_refl _) _), box_new wr z.A z.B z.C z.D z.K _⟩)
                          clear h hz HI
                          go_wp2_with fail
                          obtain ⟨wy, hwy⟩ : ∃ wy, wr.alloc (.cells #[.int .i64 z.A, .int .i64 z.B, .int .i64 z.C, .int .i64 z.D, .int .i64 z.K] 23) = wy := ⟨_, rfl⟩
                          rw [hwy] at HY ⊢
                          clear hwy x0 x1 x2 x3 x4 z0 z1 z2 z3 z4 hxl hgl
                          generalize wr.heap.size = bz at *
                          refine (HA.out y z _ HY.out.1).mono ?_
                          rintro e v2 ⟨rfl, hb2⟩
                          have h := HY.out
                          have HZ := Lib.hid (show Below w.heap.size w v2 ∧ IRow v2 bl I15 ∧ IRow v2 bm I9 ∧ Box v2 bx 23 y ∧ Row v2 g 0 L ∧ Box v2 bz 23 z from ⟨below_via hb2 h.1, h.2.1.below hb2, h.2.2.1.below hb2, h.2.2.2.1.below hb2 h.2.2.2.1.lt, h.2.2.2.2.1.below hb2, h.2.2.2.2.2.below hb2 h.2.2.2.2.2.lt⟩)
                          clear h HY hb2
                          obtain ⟨x0, x1, x2, x3, x4⟩ := HZ.out.2.2.2.1.cell
                          obtain ⟨z0, z1, z2, z3, z4⟩ := HZ.out.2.2.2.2.2.cell
                          have hxl := HZ.out.2.2.2.1.lt
                          have hzl := HZ.out.2.2.2.2.2.lt
                          go_wp2_with fail
                          clear x0 x1 x2 x3 x4 z0 z1 z2 z3 z4 hxl hzl
                          refine (HA.out z y _ HZ.out.1).mono ?_
                          rintro e v3 ⟨rfl, hb3⟩
                          have h := HZ.out
                          have HQ := Lib.hid (show Below w.heap.size w v3 ∧ IRow v3 bl I15 ∧ IRow v3 bm I9 ∧ Box v3 bx 23 y ∧ Row v3 g 0 L ∧ Box v3 bz 23 z from ⟨below_via hb3 h.1, h.2.1.below hb3, h.2.2.1.below hb3, h.2.2.2.1.below hb3 h.2.2.2.1.lt, h.2.2.2.2.1.below hb3, h.2.2.2.2.2.below hb3 h.2.2.2.2.2.lt⟩)
                          clear h HZ hb3
                          obtain ⟨x0, x1, x2, x3, x4⟩ := HQ.out.2.2.2.1.cell
                          obtain ⟨z0, z1, z2, z3, z4⟩ := HQ.out.2.2.2.2.2.cell
                          have hxl := HQ.out.2.2.2.1.lt
                          have hzl := HQ.out.2.2.2.2.2.lt
                          go_wp2_with fail
                          clear x0 x1 x2 x3 x4 z0 z1 z2 z3 z4 hxl hzl
                          have HRN := Lib.hid (Row.new v3 #[.int .i64 y.A, .int .i64 y.B, .int .i64 y.C, .int .i64 y.D, .int .i64 y.K, .int .i64 z.A, .int .i64 z.B, .int .i64 z.C, .int .i64 z.D, .int .i64 z.K, .int .i64 y.A, .int .i64 y.B, .int .i64 y.C, .int .i64 y.D, .int .i64 y.K] 23 [y, z, y] rfl)
                          refine (HP3.out y y z y t v _ _ (by omega) (by omega) HRN.out (below_al HQ.out.1 _)).mono ?_
                          rintro e v4 ⟨rfl, hb4⟩
                          have h := HQ.out
                          have hb5 : Below v3.heap.size v3 v4 := below_via hb4 (below_al (Below.refl _ v3) _)
                          have HF := Lib.hid (show Below w.heap.size w v4 ∧ IRow v4 bl I15 ∧ IRow v4 bm I9 ∧ Box v4 bx 23 y ∧ Row v4 g 0 L from ⟨below_via hb5 h.1, h.2.1.below hb5, h.2.2.1.below hb5, h.2.2.2.1.below hb5 h.2.2.2.1.lt, h.2.2.2.2.1.below hb5⟩)
                          clear h HQ hb4 hb5 HRN
                          go_wp2_with fail
                          go_roundw
                          case rel => exact ⟨m + 1, by omega, by go_num, HF⟩
                          case measure => simp [intOf]; omega
                        · have hbm4 : decide ((m : Int) < 4) = false := decide_eq_false (by omega)
                          have h := HI.out
                          have HF := Lib.hid (show Below w.heap.size w wr ∧ IRow wr bl I15 ∧ IRow wr bm I9 from ⟨h.1, h.2.1, h.2.2.1⟩)
                          clear h HI
                          go_wp2_with fail
                          go_roundw
                          case rel => first | exact ⟨t + 1, by omega, by go_num, HF⟩ | ((repeat apply Exists.intro); exact ⟨⟨t + 1, by omega, by go_num, HF⟩, rfl⟩)
                          case measure => simp [intOf]; omega
                · have hbt4 : decide ((t : Int) < 4) = false := decide_eq_false (by omega)
                  go_wp2_with fail
                  refine (HN.out _ _ _ _ _ _).mono ?_
                  rintro e v1 ⟨rfl, hb1⟩
                  have HF := Lib.hid (show Below w.heap.size w v1 ∧ IRow v1 bl I15 ∧ IRow v1 bm I9 from ⟨below_via hb1 HJ.out.1, HJ.out.2.1.below hb1, HJ.out.2.2.below hb1⟩)
                  clear hb1 HJ
                  go_wp2_with fail
                  refine (HP0.out ⟨0, 1, 0, 0, 0⟩ v q _ hv0 hv1 HF.out.1).mono ?_
                  rintro e v2 ⟨rfl, hb2⟩
                  have HF2 := Lib.hid (show Below w.heap.size w v2 ∧ IRow v2 bl I15 ∧ IRow v2 bm I9 from ⟨below_via hb2 HF.out.1, HF.out.2.1.below hb2, HF.out.2.2.below hb2⟩)
                  clear hb2 HF
                  go_wp2_with fail
                  refine (HN.out _ _ _ _ _ _).mono ?_
                  rintro e v3 ⟨rfl, hb3⟩
                  have HF3 := Lib.hid (show Below w.heap.size w v3 ∧ IRow v3 bl I15 ∧ IRow v3 bm I9 from ⟨below_via hb3 HF2.out.1, HF2.out.2.1.below hb3, HF2.out.2.2.below hb3⟩)
                  clear hb3 HF2
                  go_wp2_with fail
                  refine (HP0.out ⟨1, 0, 0, 0, 1⟩ q v _ hq0 hq1 HF3.out.1).mono ?_
                  rintro e v4 ⟨rfl, hb4⟩
                  have HF4 := Lib.hid (show Below w.heap.size w v4 ∧ IRow v4 bl I15 ∧ IRow v4 bm I9 from ⟨below_via hb4 HF3.out.1, HF3.out.2.1.below hb4, HF3.out.2.2.below hb4⟩)
                  clear hb4 HF3
                  go_wp2_with fail
                  go_roundw
                  case rel => first | exact ⟨j + 1, by omega, by go_num, HF4⟩ | ((repeat apply Exists.intro); exact ⟨⟨j + 1, by omega, by go_num, HF4⟩, rfl⟩)
                  case measure => simp [intOf]; omega
            · have hbj9 : decide ((j : Int) < 9) = false := decide_eq_false (by omega)
              have HF := Lib.hid (show Below w.heap.size w wr ∧ IRow wr bl I15 from ⟨HJ.out.1, HJ.out.2.1⟩)
              clear HJ
              go_wp2_with fail
              go_roundw
              case rel => exact ⟨k + 1, by omega, by go_num, HF⟩
              case measure => simp [intOf]; omega
        · have hbk15 : decide ((k : Int) < 15) = false := decide_eq_false (by omega)
          have HB := Lib.hid (below_al HJ.out.1 (.cells #[.int .i64 28, .int .i64 29, .int .i64 30, .int .i64 31, .int .i64 58, .int .i64 59, .int .i64 60, .int .i64 61, .int .i64 62, .int .i64 63, .int .i64 64, .int .i64 65] 3))
          have HI := Lib.hid (IRow.new wr #[.int .i64 28, .int .i64 29, .int .i64 30, .int .i64 31, .int .i64 58, .int .i64 59, .int .i64 60, .int .i64 61, .int .i64 62, .int .i64 63, .int .i64 64, .int .i64 65] 3 I12 rfl)
          clear HJ
          go_wp2_with fail
          obtain ⟨V3, hV3⟩ : ∃ V3, wr.alloc (.cells #[.int .i64 28, .int .i64 29, .int .i64 30, .int .i64 31, .int .i64 58, .int .i64 59, .int .i64 60, .int .i64 61, .int .i64 62, .int .i64 63, .int .i64 64, .int .i64 65] 3) = V3 := ⟨_, rfl⟩
          rw [hV3] at HB HI ⊢
          clear hV3
          generalize wr.heap.size = bq at *
          have HJ3 : Hid (Below w.heap.size w V3 ∧ IRow V3 bq I12) := ⟨HB.out, HI.out⟩
          clear HB HI
          go_loopw [162] (fun i wx => ∃ k : Nat, k ≤ 12 ∧ i = .int .i64 k ∧ Hid (Below w.heap.size w wx ∧ IRow wx bq I12)) (fun i _ => 12 - (intOf i).toNat)
          case atStart => exact ⟨0, by omega, rfl, HJ3⟩
          case round =>
            obtain ⟨j, hj, rfl, HJ⟩ := hrel
            by_cases hlj : j < 12
            · obtain ⟨v, hv⟩ : ∃ v, I12[j]? = some v := ⟨_, List.getElem?_eq_getElem hlj⟩
              have c0 := HJ.out.2.2 j v hv
              obtain ⟨hv0, hv1⟩ := I12_in hv
              have hbll := HJ.out.2.1
              clear hv
              go_wp2_with fail
              refine (HN.out _ _ _ _ _ _).mono ?_
              rintro e v1 ⟨rfl, hb1⟩
              have H1 := Lib.hid (show Below w.heap.size w v1 ∧ IRow v1 bq I12 from ⟨below_via hb1 HJ.out.1, HJ.out.2.below hb1⟩)
              clear hb1 HJ c0 hbll
              go_wp2_with fail
              refine (HP0.out ⟨2, 0, 0, 0, 0⟩ v v _ (by omega) (by omega) H1.out.1).mono ?_
              rintro e v2 ⟨rfl, hb2⟩
              have H2 := Lib.hid (show Below w.heap.size w v2 ∧ IRow v2 bq I12 from ⟨below_via hb2 H1.out.1, H1.out.2.below hb2⟩)
              clear hb2 H1
              go_wp2_with fail
              refine (HN.out _ _ _ _ _ _).mono ?_
              rintro e v3 ⟨rfl, hb3⟩
              have H3 := Lib.hid (show Below w.heap.size w v3 ∧ IRow v3 bq I12 from ⟨below_via hb3 H2.out.1, H2.out.2.below hb3⟩)
              clear hb3 H2
              go_wp2_with fail
              refine (HP0.out ⟨1, 0, 0, 0, 1⟩ v v _ (by omega) (by omega) H3.out.1).mono ?_
              rintro e v4 ⟨rfl, hb4⟩
              have H4 := Lib.hid (show Below w.heap.size w v4 ∧ IRow v4 bq I12 from ⟨below_via hb4 H3.out.1, H3.out.2.below hb4⟩)
              clear hb4 H3
              go_wp2_with fail
              refine (HN.out _ _ _ _ _ _).mono ?_
              rintro e v5 ⟨rfl, hb5⟩
              have H5 := Lib.hid (show Below w.heap.size w v5 ∧ IRow v5 bq I12 from ⟨below_via hb5 H4.out.1, H4.out.2.below hb5⟩)
              clear hb5 H4
              go_wp2_with fail
              refine (HP0.out ⟨0, 1, 0, -1, 0⟩ v (-v) _ (by omega) (by omega) H5.out.1).mono ?_
              rintro e v6 ⟨rfl, hb6⟩
              have H6 := Lib.hid (show Below w.heap.size w v6 ∧ IRow v6 bq I12 from ⟨below_via hb6 H5.out.1, H5.out.2.below hb6⟩)
              clear hb6 H5
              go_wp2_with fail
              go_roundw
              case rel => first | exact ⟨j + 1, by omega, by go_num, H6⟩ | ((repeat apply Exists.intro); exact ⟨⟨j + 1, by omega, by go_num, H6⟩, rfl⟩)
              case measure => simp [intOf]; omega
            · have HB := Lib.hid (below_al HJ.out.1 (.cells #[.string ⟨#[48]⟩, .string ⟨#[40, 49, 45, 50, 119, 43, 51, 119, 50, 45, 119, 51, 41, 47, 114, 49, 50]⟩, .string ⟨#[45, 119, 51]⟩, .string ⟨#[49, 48, 55, 51, 55, 52, 49, 56, 50, 52]⟩, .string ⟨#[49, 50, 43, 119]⟩, .string ⟨#[40, 49, 41, 47, 114, 54, 48]⟩] 9))
              have HI := Lib.hid (SRow.new wr #[.string ⟨#[48]⟩, .string ⟨#[40, 49, 45, 50, 119, 43, 51, 119, 50, 45, 119, 51, 41, 47, 114, 49, 50]⟩, .string ⟨#[45, 119, 51]⟩, .string ⟨#[49, 48, 55, 51, 55, 52, 49, 56, 50, 52]⟩, .string ⟨#[49, 50, 43, 119]⟩, .string ⟨#[40, 49, 41, 47, 114, 54, 48]⟩] 9 T6 rfl)
              clear HJ
              go_wp2_with fail
              obtain ⟨V4, hV4⟩ : ∃ V4, wr.alloc (.cells #[.string ⟨#[48]⟩, .string ⟨#[40, 49, 45, 50, 119, 43, 51, 119, 50, 45, 119, 51, 41, 47, 114, 49, 50]⟩, .string ⟨#[45, 119, 51]⟩, .string ⟨#[49, 48, 55, 51, 55, 52, 49, 56, 50, 52]⟩, .string ⟨#[49, 50, 43, 119]⟩, .string ⟨#[40, 49, 41, 47, 114, 54, 48]⟩] 9) = V4 := ⟨_, rfl⟩
              rw [hV4] at HB HI ⊢
              clear hV4
              generalize wr.heap.size = bt at *
              have HJ4 : Hid (Below w.heap.size w V4 ∧ SRow V4 bt T6) := ⟨HB.out, HI.out⟩
              clear HB HI
              go_loopw [189] (fun i wx => ∃ k : Nat, k ≤ 6 ∧ i = .int .i64 k ∧ Hid (Below w.heap.size w wx ∧ SRow wx bt T6)) (fun i _ => 6 - (intOf i).toNat)
              case atStart => exact ⟨0, by omega, rfl, HJ4⟩
              case round =>
                obtain ⟨k, hk, rfl, HJ⟩ := hrel
                by_cases hlt : k < 6
                · obtain ⟨s, hs⟩ : ∃ s, T6[k]? = some s := ⟨_, List.getElem?_eq_getElem hlt⟩
                  have c0 := HJ.out.2.2 k s hs
                  have hss := T6_size hs
                  have hbll := HJ.out.2.1
                  clear hs
                  go_wp2_with fail
                  clear c0 hbll
                  obtain ⟨wp, hwp⟩ : ∃ wp, wp = wr := ⟨_, rfl⟩
                  rw [← hwp] at HJ ⊢
                  clear hwp
                  go_loopw [196] (fun i wx => ∃ t : Nat, t ≤ s.size + 1 ∧ i = .int .i64 t ∧ Hid (Below w.heap.size w wx ∧ SRow wx bt T6)) (fun i _ => s.size + 1 - (intOf i).toNat)
                  case atStart => exact ⟨0, by omega, rfl, HJ⟩
                  case round =>
                    obtain ⟨t, ht, rfl, HJ⟩ := hrel
                    by_cases hlt4 : t < s.size + 1
                    · have HB := Lib.hid (below_al HJ.out.1 (.cells #[.string ⟨#[]⟩, .string ⟨#[48]⟩, .string ⟨#[49]⟩, .string ⟨#[119]⟩, .string ⟨#[45]⟩, .string ⟨#[43]⟩, .string ⟨#[40]⟩, .string ⟨#[41]⟩, .string ⟨#[114]⟩, .string ⟨#[32]⟩, .string ⟨#[50]⟩, .string ⟨#[47]⟩] 9))
                      have HI := Lib.hid (HJ.out.2.below ((Below.refl _ wr).alloc (Nat.le_refl _) (.cells #[.string ⟨#[]⟩, .string ⟨#[48]⟩, .string ⟨#[49]⟩, .string ⟨#[119]⟩, .string ⟨#[45]⟩, .string ⟨#[43]⟩, .string ⟨#[40]⟩, .string ⟨#[41]⟩, .string ⟨#[114]⟩, .string ⟨#[32]⟩, .string ⟨#[50]⟩, .string ⟨#[47]⟩] 9)))
                      have HK := Lib.hid (SRow.new wr #[.string ⟨#[]⟩, .string ⟨#[48]⟩, .string ⟨#[49]⟩, .string ⟨#[119]⟩, .string ⟨#[45]⟩, .string ⟨#[43]⟩, .string ⟨#[40]⟩, .string ⟨#[41]⟩, .string ⟨#[114]⟩, .string ⟨#[32]⟩, .string ⟨#[50]⟩, .string ⟨#[47]⟩] 9 T12 rfl)
                      have hti : (t : Int) < (s.size : Int) + 1 := by omega
                      clear HJ
                      go_wp2_with fail
                      obtain ⟨V5, hV5⟩ : ∃ V5, wr.alloc (.cells #[.string ⟨#[]⟩, .string ⟨#[48]⟩, .string ⟨#[49]⟩, .string ⟨#[119]⟩, .string ⟨#[45]⟩, .string ⟨#[43]⟩, .string ⟨#[40]⟩, .string ⟨#[41]⟩, .string ⟨#[114]⟩, .string ⟨#[32]⟩, .string ⟨#[50]⟩, .string ⟨#[47]⟩] 9) = V5 := ⟨_, rfl⟩
                      rw [hV5] at HB HI HK ⊢
                      clear hV5
                      generalize wr.heap.size = bc at *
                      have HJ5 : Hid (Below w.heap.size w V5 ∧ SRow V5 bt T6 ∧ SRow V5 bc T12) := ⟨HB.out, HI.out, HK.out⟩
                      clear HB HI HK
                      go_loopw [201] (fun i wx => ∃ m : Nat, m ≤ 12 ∧ i = .int .i64 m ∧ Hid (Below w.heap.size w wx ∧ SRow wx bt T6 ∧ SRow wx bc T12)) (fun i _ => 12 - (intOf i).toNat)
                      case atStart => exact ⟨0, by omega, rfl, HJ5⟩
                      case round =>
                        obtain ⟨m, hm, rfl, HJ⟩ := hrel
                        by_cases hlm : m < 12
                        · obtain ⟨c, hc⟩ : ∃ c, T12[m]? = some c := ⟨_, List.getElem?_eq_getElem hlm⟩
                          have c0 := HJ.out.2.2.2 m c hc
                          have hcs := T12_size hc
                          have hbll := HJ.out.2.2.1
                          clear hc
                          go_wp2_with fail
                          have hsz1 : s.size ≤ 9223372036854775807 := by omega
                          have HSZ : Hid (∀ i j i' j', (s.extract i j ++ c ++ s.extract i' j').size ≤ 9223372036854775807) := fun i j i' j' => by
                            rw [ByteArray.size_append, ByteArray.size_append, ByteArray.size_extract, ByteArray.size_extract]
                            omega
                          have h := HJ.out
                          have HB := Lib.hid h.1
                          have HS1 := Lib.hid h.2.1
                          have HS2 := Lib.hid h.2.2
                          clear h HJ c0 hbll
                          go_cut [237] from 205 to 238 (fun r wx => r = .bool false ∧ Below w.heap.size w wx ∧ SRow wx bt T6 ∧ SRow wx bc T12)
                          case first =>
                            rename_i J1 K1 hJ1 hK1
                            have hsx : ∀ i j, (s.extract i j).size ≤ 17 := fun i j => by
                              rw [ByteArray.size_extract]
                              omega
                            have hz1 : (s.extract 0 t).size + c.size ≤ 9223372036854775807 := by
                              have := hsx 0 t
                              omega
                            have hz0 : ∀ i j, (s.extract 0 t ++ c).size + (s.extract i j).size ≤ 9223372036854775807 := fun i j => by
                              rw [ByteArray.size_append]
                              have := hsx 0 t
                              have := hsx i j
                              omega
                            have hz2 := hz0 t s.size
                            have hz3 := hz0 (t + 1) s.size
                            clear hsx hz0
                            by_cases hts : t < s.size
                            · have htd : decide ((t : Int) < (s.size : Int)) = true := decide_eq_true (by omega)
                              have htl : (t : Int) ≤ s.size := by omega
                              have htl1 : ((t + 1 : Nat) : Int) ≤ s.size := by omega
                              have hts9 : t < 1000 := by omega
                              refine region_fin (fun wx => Below w.heap.size w wx ∧ SRow wx bt T6 ∧ SRow wx bc T12) 205 ((nv 1 0 0 0 0) :: (.string s) :: (.int .i64 t) :: (.string (s.extract 0 t)) :: (.string c) :: (.string (s.extract 0 t ++ c)) :: (.string s) :: (.int .i64 t) :: (.string (s.extract t s.size)) :: (.string (s.extract 0 t ++ c ++ s.extract t s.size)) :: (.bool true) :: (.bool false) :: (.bool false) :: (.int .i64 t) :: (.string s) :: (.int .i64 s.size) :: (.bool true) :: (.bool true) :: (nv 0 0 0 0 0) :: (.string s) :: (.int .i64 t) :: (.string (s.extract 0 t)) :: (.string c) :: (.string (s.extract 0 t ++ c)) :: (.string s) :: (.int .i64 t) :: (.int .i64 ((t + 1 : Nat) : Int)) :: (.string (s.extract (t + 1) s.size)) :: (.string (s.extract 0 t ++ c ++ s.extract (t + 1) s.size)) :: (.bool true) :: (.bool false) :: (.bool false) :: (.bool false) :: u238 :: u239 :: u240 :: undef :: undef :: undef :: undef :: undef :: undef :: undef :: undef :: undef :: undef :: undef :: undef :: undef :: []) 205 (nv 1 0 0 0 0) (by as_aux_lemma => kernel_rfl) (by as_aux_lemma => kernel_rfl) (by as_aux_lemma => kernel_rfl) (outV_fin _ 33 (by as_aux_lemma => kernel_rfl) (Nat.le_of_ble_eq_true (by kernel_rfl)) (Nat.le_of_ble_eq_true (by kernel_rfl)) (by as_aux_lemma => kernel_rfl)) ⟨below_via (below_dN (Below.refl _ _) 1) HB.out, HS1.out.below (below_dN (Below.refl _ _) 1), HS2.out.below (below_dN (Below.refl _ _) 1)⟩ ?_ ?_
                              rotate_left
                              · refine eachOp_cons (ok_call 4 #[.int .i64 1, .int .i64 0, .int .i64 0, .int .i64 0, .int .i64 0] (by kernel_rfl) (by kernel_rfl) (fun _ => by kernel_rfl) (fun W hC => (HN.out 1 0 0 0 0 W).mono fun _ _ h => ⟨h.1, below_via h.2 hC.1, hC.2.1.below h.2, hC.2.2.below h.2⟩)) ?_
                                refine eachOp_cons (ok_val (by kernel_rfl) (by kernel_rfl) (fun _ => by kernel_rfl)) ?_
                                refine eachOp_cons (ok_val (by kernel_rfl) (by kernel_rfl) (fun _ => by kernel_rfl)) ?_
                                refine eachOp_cons (ok_val (by kernel_rfl) (by kernel_rfl) (fun _ => small_lo (b := s) (n := t) rfl (by kernel_rfl) (by kernel_rfl) htl)) ?_
                                refine eachOp_cons (ok_val (by kernel_rfl) (by kernel_rfl) (fun _ => by kernel_rfl)) ?_
                                refine eachOp_cons (ok_val (by kernel_rfl) (by kernel_rfl) (fun _ => small_cat (b := s.extract 0 t) (c := c) rfl (by kernel_rfl) (by kernel_rfl) hz1)) ?_
                                refine eachOp_cons (ok_val (by kernel_rfl) (by kernel_rfl) (fun _ => by kernel_rfl)) ?_
                                refine eachOp_cons (ok_val (by kernel_rfl) (by kernel_rfl) (fun _ => by kernel_rfl)) ?_
                                refine eachOp_cons (ok_val (by kernel_rfl) (by kernel_rfl) (fun _ => small_hi (b := s) (n := t) rfl (by kernel_rfl) (by kernel_rfl) htl)) ?_
                                refine eachOp_cons (ok_val (by kernel_rfl) (by kernel_rfl) (fun _ => small_cat (b := s.extract 0 t ++ c) (c := s.extract t s.size) rfl (by kernel_rfl) (by kernel_rfl) hz2)) ?_
                                refine eachOp_cons (ok_call 7 #[nv 1 0 0 0 0, .string (s.extract 0 t ++ c ++ s.extract t s.size)] (by kernel_rfl) (by kernel_rfl) (fun _ => by kernel_rfl) (fun W hC => (HT1.out _ W (HSZ.out _ _ _ _) hC.1).mono fun _ _ h => ⟨h.1, below_via h.2 hC.1, hC.2.1.below h.2, hC.2.2.below h.2⟩)) ?_
                                refine eachOp_cons (ok_val (by kernel_rfl) (by kernel_rfl) (fun _ => by kernel_rfl)) ?_
                                refine eachOp_cons (ok_val (by kernel_rfl) (by kernel_rfl) (fun _ => by kernel_rfl)) ?_
                                refine eachOp_cons (ok_val (by kernel_rfl) (by kernel_rfl) (fun _ => by kernel_rfl)) ?_
                                refine eachOp_cons (ok_val (by kernel_rfl) (by kernel_rfl) (fun _ => by kernel_rfl)) ?_
                                refine eachOp_cons (ok_val (by kernel_rfl) (by kernel_rfl) (fun _ => small_len (b := s) rfl (by kernel_rfl))) ?_
                                refine eachOp_cons (ok_val (by kernel_rfl) (by kernel_rfl) (fun _ => small_lss (m := t) (n := s.size) rfl (by kernel_rfl) (by kernel_rfl) htd)) ?_
                                refine eachOp_cons (ok_val (by kernel_rfl) (by kernel_rfl) (fun _ => by kernel_rfl)) ?_
                                refine eachOp_cons (ok_call 4 #[.int .i64 0, .int .i64 0, .int .i64 0, .int .i64 0, .int .i64 0] (by kernel_rfl) (by kernel_rfl) (fun _ => by kernel_rfl) (fun W hC => (HN.out 0 0 0 0 0 W).mono fun _ _ h => ⟨h.1, below_via h.2 hC.1, hC.2.1.below h.2, hC.2.2.below h.2⟩)) ?_
                                refine eachOp_cons (ok_val (by kernel_rfl) (by kernel_rfl) (fun _ => by kernel_rfl)) ?_
                                refine eachOp_cons (ok_val (by kernel_rfl) (by kernel_rfl) (fun _ => by kernel_rfl)) ?_
                                refine eachOp_cons (ok_val (by kernel_rfl) (by kernel_rfl) (fun _ => small_lo (b := s) (n := t) rfl (by kernel_rfl) (by kernel_rfl) htl)) ?_
                                refine eachOp_cons (ok_val (by kernel_rfl) (by kernel_rfl) (fun _ => by kernel_rfl)) ?_
                                refine eachOp_cons (ok_val (by kernel_rfl) (by kernel_rfl) (fun _ => small_cat (b := s.extract 0 t) (c := c) rfl (by kernel_rfl) (by kernel_rfl) hz1)) ?_
                                refine eachOp_cons (ok_val (by kernel_rfl) (by kernel_rfl) (fun _ => by kernel_rfl)) ?_
                                refine eachOp_cons (ok_val (by kernel_rfl) (by kernel_rfl) (fun _ => by kernel_rfl)) ?_
                                refine eachOp_cons (ok_val (by kernel_rfl) (by kernel_rfl) (fun _ => small_add1 (n := t) rfl (by kernel_rfl) (by kernel_rfl) hts9)) ?_
                                refine eachOp_cons (ok_val (by kernel_rfl) (by kernel_rfl) (fun _ => small_hi (b := s) (n := t + 1) rfl (by kernel_rfl) (by kernel_rfl) htl1)) ?_
                                refine eachOp_cons (ok_val (by kernel_rfl) (by kernel_rfl) (fun _ => small_cat (b := s.extract 0 t ++ c) (c := s.extract (t + 1) s.size) rfl (by kernel_rfl) (by kernel_rfl) hz3)) ?_
                                refine eachOp_cons (ok_call 7 #[nv 0 0 0 0 0, .string (s.extract 0 t ++ c ++ s.extract (t + 1) s.size)] (by kernel_rfl) (by kernel_rfl) (fun _ => by kernel_rfl) (fun W hC => (HT0.out _ W (HSZ.out _ _ _ _) hC.1).mono fun _ _ h => ⟨h.1, below_via h.2 hC.1, hC.2.1.below h.2, hC.2.2.below h.2⟩)) ?_
                                refine eachOp_cons (ok_val (by kernel_rfl) (by kernel_rfl) (fun _ => by kernel_rfl)) ?_
                                refine eachOp_cons (ok_val (by kernel_rfl) (by kernel_rfl) (fun _ => by kernel_rfl)) ?_
                                refine eachOp_cons (ok_val (by kernel_rfl) (by kernel_rfl) (fun _ => by kernel_rfl)) ?_
                                exact eachOp_nil
                              intro W hW
                              simp only [finA, List.take_succ_cons, List.take_zero, List.cons_append, List.nil_append, List.set_cons_succ, List.set_cons_zero]
                              refine hK1 _ _ (Met.intro (hJ1 _ _ ?_))
                              (repeat apply Exists.intro)
                              exact ⟨⟨rfl, hW.1, hW.2.1, hW.2.2⟩, rfl⟩
                            · have htd : decide ((t : Int) < (s.size : Int)) = false := decide_eq_false (by omega)
                              have htl : (t : Int) ≤ s.size := by omega
                              refine region_fin (fun wx => Below w.heap.size w wx ∧ SRow wx bt T6 ∧ SRow wx bc T12) 205 ((nv 1 0 0 0 0) :: (.string s) :: (.int .i64 t) :: (.string (s.extract 0 t)) :: (.string c) :: (.string (s.extract 0 t ++ c)) :: (.string s) :: (.int .i64 t) :: (.string (s.extract t s.size)) :: (.string (s.extract 0 t ++ c ++ s.extract t s.size)) :: (.bool true) :: (.bool false) :: (.bool false) :: (.int .i64 t) :: (.string s) :: (.int .i64 s.size) :: (.bool false) :: (.bool false) :: undef :: undef :: undef :: undef :: undef :: undef :: undef :: undef :: undef :: undef :: undef :: undef :: undef :: (.bool false) :: (.bool false) :: u238 :: u239 :: u240 :: undef :: undef :: undef :: undef :: undef :: undef :: undef :: undef :: undef :: undef :: undef :: undef :: undef :: []) 205 (nv 1 0 0 0 0) (by as_aux_lemma => kernel_rfl) (by as_aux_lemma => kernel_rfl) (by as_aux_lemma => kernel_rfl) (outV_fin _ 33 (by as_aux_lemma => kernel_rfl) (Nat.le_of_ble_eq_true (by kernel_rfl)) (Nat.le_of_ble_eq_true (by kernel_rfl)) (by as_aux_lemma => kernel_rfl)) ⟨below_via (below_dN (Below.refl _ _) 1) HB.out, HS1.out.below (below_dN (Below.refl _ _) 1), HS2.out.below (below_dN (Below.refl _ _) 1)⟩ ?_ ?_
                              rotate_left
                              · refine eachOp_cons (ok_call 4 #[.int .i64 1, .int .i64 0, .int .i64 0, .int .i64 0, .int .i64 0] (by kernel_rfl) (by kernel_rfl) (fun _ => by kernel_rfl) (fun W hC => (HN.out 1 0 0 0 0 W).mono fun _ _ h => ⟨h.1, below_via h.2 hC.1, hC.2.1.below h.2, hC.2.2.below h.2⟩)) ?_
                                refine eachOp_cons (ok_val (by kernel_rfl) (by kernel_rfl) (fun _ => by kernel_rfl)) ?_
                                refine eachOp_cons (ok_val (by kernel_rfl) (by kernel_rfl) (fun _ => by kernel_rfl)) ?_
                                refine eachOp_cons (ok_val (by kernel_rfl) (by kernel_rfl) (fun _ => small_lo (b := s) (n := t) rfl (by kernel_rfl) (by kernel_rfl) htl)) ?_
                                refine eachOp_cons (ok_val (by kernel_rfl) (by kernel_rfl) (fun _ => by kernel_rfl)) ?_
                                refine eachOp_cons (ok_val (by kernel_rfl) (by kernel_rfl) (fun _ => small_cat (b := s.extract 0 t) (c := c) rfl (by kernel_rfl) (by kernel_rfl) hz1)) ?_
                                refine eachOp_cons (ok_val (by kernel_rfl) (by kernel_rfl) (fun _ => by kernel_rfl)) ?_
                                refine eachOp_cons (ok_val (by kernel_rfl) (by kernel_rfl) (fun _ => by kernel_rfl)) ?_
                                refine eachOp_cons (ok_val (by kernel_rfl) (by kernel_rfl) (fun _ => small_hi (b := s) (n := t) rfl (by kernel_rfl) (by kernel_rfl) htl)) ?_
                                refine eachOp_cons (ok_val (by kernel_rfl) (by kernel_rfl) (fun _ => small_cat (b := s.extract 0 t ++ c) (c := s.extract t s.size) rfl (by kernel_rfl) (by kernel_rfl) hz2)) ?_
                                refine eachOp_cons (ok_call 7 #[nv 1 0 0 0 0, .string (s.extract 0 t ++ c ++ s.extract t s.size)] (by kernel_rfl) (by kernel_rfl) (fun _ => by kernel_rfl) (fun W hC => (HT1.out _ W (HSZ.out _ _ _ _) hC.1).mono fun _ _ h => ⟨h.1, below_via h.2 hC.1, hC.2.1.below h.2, hC.2.2.below h.2⟩)) ?_
                                refine eachOp_cons (ok_val (by kernel_rfl) (by kernel_rfl) (fun _ => by kernel_rfl)) ?_
                                refine eachOp_cons (ok_val (by kernel_rfl) (by kernel_rfl) (fun _ => by kernel_rfl)) ?_
                                refine eachOp_cons (ok_val (by kernel_rfl) (by kernel_rfl) (fun _ => by kernel_rfl)) ?_
                                refine eachOp_cons (ok_val (by kernel_rfl) (by kernel_rfl) (fun _ => by kernel_rfl)) ?_
                                refine eachOp_cons (ok_val (by kernel_rfl) (by kernel_rfl) (fun _ => small_len (b := s) rfl (by kernel_rfl))) ?_
                                refine eachOp_cons (ok_val (by kernel_rfl) (by kernel_rfl) (fun _ => small_lss (m := t) (n := s.size) rfl (by kernel_rfl) (by kernel_rfl) htd)) ?_
                                refine eachOp_cons (ok_val (by kernel_rfl) (by kernel_rfl) (fun _ => by kernel_rfl)) ?_
                                refine eachOp_cons (ok_skip (by kernel_rfl) (by kernel_rfl) (by kernel_rfl)) ?_
                                refine eachOp_cons (ok_skip (by kernel_rfl) (by kernel_rfl) (by kernel_rfl)) ?_
                                refine eachOp_cons (ok_skip (by kernel_rfl) (by kernel_rfl) (by kernel_rfl)) ?_
                                refine eachOp_cons (ok_skip (by kernel_rfl) (by kernel_rfl) (by kernel_rfl)) ?_
                                refine eachOp_cons (ok_skip (by kernel_rfl) (by kernel_rfl) (by kernel_rfl)) ?_
                                refine eachOp_cons (ok_skip (by kernel_rfl) (by kernel_rfl) (by kernel_rfl)) ?_
                                refine eachOp_cons (ok_skip (by kernel_rfl) (by kernel_rfl) (by kernel_rfl)) ?_
                                refine eachOp_cons (ok_skip (by kernel_rfl) (by kernel_rfl) (by kernel_rfl)) ?_
                                refine eachOp_cons (ok_skip (by kernel_rfl) (by kernel_rfl) (by kernel_rfl)) ?_
                                refine eachOp_cons (ok_skip (by kernel_rfl) (by kernel_rfl) (by kernel_rfl)) ?_
                                refine eachOp_cons (ok_skip (by kernel_rfl) (by kernel_rfl) (by kernel_rfl)) ?_
                                refine eachOp_cons (ok_skip (by kernel_rfl) (by kernel_rfl) (by kernel_rfl)) ?_
                                refine eachOp_cons (ok_skip (by kernel_rfl) (by kernel_rfl) (by kernel_rfl)) ?_
                                refine eachOp_cons (ok_val (by kernel_rfl) (by kernel_rfl) (fun _ => by kernel_rfl)) ?_
                                refine eachOp_cons (ok_val (by kernel_rfl) (by kernel_rfl) (fun _ => by kernel_rfl)) ?_
                                exact eachOp_nil
                              intro W hW
                              simp only [finA, List.take_succ_cons, List.take_zero, List.cons_append, List.nil_append, List.set_cons_succ, List.set_cons_zero]
                              refine hK1 _ _ (Met.intro (hJ1 _ _ ?_))
                              (repeat apply Exists.intro)
                              exact ⟨⟨rfl, hW.1, hW.2.1, hW.2.2⟩, rfl⟩
                          case rest =>
                            obtain ⟨rfl, hB, hS1, hS2⟩ := hcut
                            have HF := Lib.hid (And.intro hB (And.intro hS1 hS2))
                            clear hB hS1 hS2 HB HS1 HS2
                            go_wp2_with fail
                            go_roundw
                            case rel => first | exact ⟨m + 1, by omega, by go_num, HF⟩ | ((repeat apply Exists.intro); exact ⟨⟨m + 1, by omega, by go_num, HF⟩, rfl⟩)
                            case measure => simp [intOf]; omega
                        · have HF := Lib.hid (show Below w.heap.size w wr ∧ SRow wr bt T6 from ⟨HJ.out.1, HJ.out.2.1⟩)
                          clear HJ
                          go_wp2_with fail
                          go_roundw
                          case rel => first | exact ⟨t + 1, by omega, by go_num, HF⟩ | ((repeat apply Exists.intro); exact ⟨⟨t + 1, by omega, by go_num, HF⟩, rfl⟩)
                          case measure => simp [intOf]; omega
                    · have hti : ¬ (t : Int) < (s.size : Int) + 1 := by omega
                      go_wp2_with fail
                      go_roundw
                      case rel => first | exact ⟨k + 1, by omega, by go_num, HJ⟩ | ((repeat apply Exists.intro); exact ⟨⟨k + 1, by omega, by go_num, HJ⟩, rfl⟩)
                      case measure => simp [intOf]; omega
                · go_wp2_with fail
                  refine (HN.out _ _ _ _ _ _).mono ?_
                  rintro e v1 ⟨rfl, hb1⟩
                  have hb1 := below_via hb1 HJ.out.1
                  clear HJ
                  go_wp2_with fail
                  refine (HT.out ⟨0, 0, 0, 0, 0⟩ _ _ (by decide) hb1).mono ?_
                  rintro e v2 ⟨rfl, hb2⟩
                  have hb2 := below_via hb2 hb1
                  go_wp2_with fail
                  refine (HN.out _ _ _ _ _ _).mono ?_
                  rintro e v3 ⟨rfl, hb3⟩
                  have hb3 := below_via hb3 hb2
                  go_wp2_with fail
                  refine (HT.out ⟨0, 0, 0, 0, 0⟩ _ _ (by decide) hb3).mono ?_
                  rintro e v4 ⟨rfl, hb4⟩
                  have hb4 := below_via hb4 hb3
                  go_wp2_with fail
                  refine (HN.out _ _ _ _ _ _).mono ?_
                  rintro e v5 ⟨rfl, hb5⟩
                  have hb5 := below_via hb5 hb4
                  go_wp2_with fail
                  refine (HT.out ⟨0, 0, 0, 0, 0⟩ _ _ (by decide) hb5).mono ?_
                  rintro e v6 ⟨rfl, hb6⟩
                  have hb6 := below_via hb6 hb5
                  go_wp2_with fail
                  refine (HW.out _ hb6).mono ?_
                  rintro e v7 ⟨rfl, hb7⟩
                  go_wp2_with fail
                  go_ret
                  exact ⟨rfl, below_via hb7 hb6⟩
end Go.Proofs.YtcdmcndjbajhlaaGreatDoor
