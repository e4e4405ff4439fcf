
/- The reference's Less. -/
import Derived.Test.YtjalpolciofphaaDoorSe
set_option linter.all false
set_option maxRecDepth 100000
namespace Go.Proofs.YtjalpolciofphaaDoor
open Go.RowKit

set_option maxHeartbeats 4000000 in
theorem r_Less_one (x y v u f : Nm) (q : Int) (by_ : Bool) (w : World)
    (HBX : Hid (InTwo w w.heap.size (w.heap.size + 1) x y ((w.alloc (.cells #[.int .i64 x.A, .int .i64 x.B, .int .i64 x.C, .int .i64 x.D, .int .i64 x.K] 23)).alloc (.cells #[.int .i64 y.A, .int .i64 y.B, .int .i64 y.C, .int .i64 y.D, .int .i64 y.K] 23))))
    (HC : Hid (∀ (b T : Nat) (w : World), Two w b T x y → Calls Tryd.prog 35 #[.slice (some ⟨b, 0, none⟩) 2 2] w (Gives (.int .i64 0) w)))
    (J1 : Hid (∀ w, Calls Tryd.prog 58 #[x.v] w (Gives v.v w)))
    (J2 : Hid (∀ w, Calls Tryd.prog 58 #[y.v] w (Gives u.v w)))
    (E1 : Hid (∀ w, Calls Tryd.prog 66 #[x.v, v.v] w (Gives (.bool false) w)))
    (E2 : Hid (∀ w, Calls Tryd.prog 66 #[y.v, u.v] w (Gives (.bool by_) w)))
    (HS : Hid (∀ w, Calls Tryd.prog 9 #[x.v, y.v] w (Gives (.tuple #[f.v, .int .i64 q]) w))) :
    Calls Tryd.prog 26 #[x.v, y.v] w (Gives (.tuple #[.bool false, .int .i64 7]) w) := by
  go_enter Tryd.func26, Tryd.ntmps26
  go_wp2_with fail
  refine (HC.out _ _ _ (two_new2 w _ _ x y _)).mono ?_
  rintro e w1 ⟨rfl, hb⟩
  have h1 := (HBX.out.al _).call hb
  clear hb HBX HC
  go_wp2_with fail
  have HI := Lib.hid h1
  clear h1
  refine region_fin (InTwo w w.heap.size (w.heap.size + 1) x y) 16 [x.v, x.v, v.v, .bool false, .bool true, .bool true, undef, undef, undef, undef, undef, .bool true, undef, undef, undef, undef, undef, undef, undef, undef, undef, undef, undef, undef, undef] 16 x.v (by kernel_rfl) (by kernel_rfl) (by kernel_rfl) (outV_fin _ 12 (by kernel_rfl) (Nat.le_of_ble_eq_true (by kernel_rfl)) (Nat.le_of_ble_eq_true (by kernel_rfl)) (by kernel_rfl)) (HI.out.call (below_dN (Below.refl _ _) 1)) ?_ ?_
  rotate_left
  · clear HI
    refine eachOp_cons (ok_load (by kernel_rfl) (by kernel_rfl) (fun _ hC => load_num (b := w.heap.size) (x := x) rfl (by kernel_rfl) hC.2.1)) ?_
    refine eachOp_cons (ok_load (by kernel_rfl) (by kernel_rfl) (fun _ hC => load_num (b := w.heap.size) (x := x) rfl (by kernel_rfl) hC.2.1)) ?_
    refine eachOp_cons (ok_call 58 #[x.v] (by kernel_rfl) (by kernel_rfl) (fun _ => by kernel_rfl) (fun W hC => (J1.out W).mono fun _ _ h => ⟨h.1, hC.call h.2⟩)) ?_
    refine eachOp_cons (ok_call 66 #[x.v, v.v] (by kernel_rfl) (by kernel_rfl) (fun _ => by kernel_rfl) (fun W hC => (E1.out W).mono fun _ _ h => ⟨h.1, hC.call h.2⟩)) ?_
    refine eachOp_cons (ok_val (by kernel_rfl) (by kernel_rfl) (fun _ => by kernel_rfl)) ?_
    refine eachOp_cons (ok_val (by kernel_rfl) (by kernel_rfl) (fun _ => by kernel_rfl)) ?_
    refine eachOp_cons (ok_skip (by kernel_rfl) (by kernel_rfl) (by kernel_rfl)) ?_
    refine eachOp_cons (ok_skip (by kernel_rfl) (by kernel_rfl) (by kernel_rfl)) ?_
    refine eachOp_cons (ok_skip (by kernel_rfl) (by kernel_rfl) (by kernel_rfl)) ?_
    refine eachOp_cons (ok_skip (by kernel_rfl) (by kernel_rfl) (by kernel_rfl)) ?_
    refine eachOp_cons (ok_skip (by kernel_rfl) (by kernel_rfl) (by kernel_rfl)) ?_
    refine eachOp_cons (ok_val (by kernel_rfl) (by kernel_rfl) (fun _ => by kernel_rfl)) ?_
    exact eachOp_nil
  intro W hW
  rename_i hK
  refine hK _ _ ?_
  have HI2 := Lib.hid hW
  have hw2 := hW.1
  clear hW HI
  simp only [finA, List.take_succ_cons, List.take_zero, List.cons_append, List.nil_append, List.set_cons_succ, List.set_cons_zero]
  go_wp2_with fail
  go_ret2
  exact ⟨rfl, hw2⟩
set_option maxHeartbeats 4000000 in
theorem r_Less_two (x y v u f : Nm) (q : Int) (by_ : Bool) (w : World)
    (HBX : Hid (InTwo w w.heap.size (w.heap.size + 1) x y ((w.alloc (.cells #[.int .i64 x.A, .int .i64 x.B, .int .i64 x.C, .int .i64 x.D, .int .i64 x.K] 23)).alloc (.cells #[.int .i64 y.A, .int .i64 y.B, .int .i64 y.C, .int .i64 y.D, .int .i64 y.K] 23))))
    (HC : Hid (∀ (b T : Nat) (w : World), Two w b T x y → Calls Tryd.prog 35 #[.slice (some ⟨b, 0, none⟩) 2 2] w (Gives (.int .i64 0) w)))
    (J1 : Hid (∀ w, Calls Tryd.prog 58 #[x.v] w (Gives v.v w)))
    (J2 : Hid (∀ w, Calls Tryd.prog 58 #[y.v] w (Gives u.v w)))
    (E1 : Hid (∀ w, Calls Tryd.prog 66 #[x.v, v.v] w (Gives (.bool true) w)))
    (E2 : Hid (∀ w, Calls Tryd.prog 66 #[y.v, u.v] w (Gives (.bool false) w)))
    (HS : Hid (∀ w, Calls Tryd.prog 9 #[x.v, y.v] w (Gives (.tuple #[f.v, .int .i64 q]) w))) :
    Calls Tryd.prog 26 #[x.v, y.v] w (Gives (.tuple #[.bool false, .int .i64 7]) w) := by
  go_enter Tryd.func26, Tryd.ntmps26
  go_wp2_with fail
  refine (HC.out _ _ _ (two_new2 w _ _ x y _)).mono ?_
  rintro e w1 ⟨rfl, hb⟩
  have h1 := (HBX.out.al _).call hb
  clear hb HBX HC
  go_wp2_with fail
  have HI := Lib.hid h1
  clear h1
  refine region_fin (InTwo w w.heap.size (w.heap.size + 1) x y) 16 [x.v, x.v, v.v, .bool true, .bool false, .bool false, y.v, y.v, u.v, .bool false, .bool true, .bool true, undef, undef, undef, undef, undef, undef, undef, undef, undef, undef, undef, undef, undef] 16 x.v (by kernel_rfl) (by kernel_rfl) (by kernel_rfl) (outV_fin _ 12 (by kernel_rfl) (Nat.le_of_ble_eq_true (by kernel_rfl)) (Nat.le_of_ble_eq_true (by kernel_rfl)) (by kernel_rfl)) (HI.out.call (below_dN (Below.refl _ _) 1)) ?_ ?_
  rotate_left
  · clear HI
    refine eachOp_cons (ok_load (by kernel_rfl) (by kernel_rfl) (fun _ hC => load_num (b := w.heap.size) (x := x) rfl (by kernel_rfl) hC.2.1)) ?_
    refine eachOp_cons (ok_load (by kernel_rfl) (by kernel_rfl) (fun _ hC => load_num (b := w.heap.size) (x := x) rfl (by kernel_rfl) hC.2.1)) ?_
    refine eachOp_cons (ok_call 58 #[x.v] (by kernel_rfl) (by kernel_rfl) (fun _ => by kernel_rfl) (fun W hC => (J1.out W).mono fun _ _ h => ⟨h.1, hC.call h.2⟩)) ?_
    refine eachOp_cons (ok_call 66 #[x.v, v.v] (by kernel_rfl) (by kernel_rfl) (fun _ => by kernel_rfl) (fun W hC => (E1.out W).mono fun _ _ h => ⟨h.1, hC.call h.2⟩)) ?_
    refine eachOp_cons (ok_val (by kernel_rfl) (by kernel_rfl) (fun _ => by kernel_rfl)) ?_
    refine eachOp_cons (ok_val (by kernel_rfl) (by kernel_rfl) (fun _ => by kernel_rfl)) ?_
    refine eachOp_cons (ok_load (by kernel_rfl) (by kernel_rfl) (fun _ hC => load_num (b := w.heap.size + 1) (x := y) rfl (by kernel_rfl) hC.2.2)) ?_
    refine eachOp_cons (ok_load (by kernel_rfl) (by kernel_rfl) (fun _ hC => load_num (b := w.heap.size + 1) (x := y) rfl (by kernel_rfl) hC.2.2)) ?_
    refine eachOp_cons (ok_call 58 #[y.v] (by kernel_rfl) (by kernel_rfl) (fun _ => by kernel_rfl) (fun W hC => (J2.out W).mono fun _ _ h => ⟨h.1, hC.call h.2⟩)) ?_
    refine eachOp_cons (ok_call 66 #[y.v, u.v] (by kernel_rfl) (by kernel_rfl) (fun _ => by kernel_rfl) (fun W hC => (E2.out W).mono fun _ _ h => ⟨h.1, hC.call h.2⟩)) ?_
    refine eachOp_cons (ok_val (by kernel_rfl) (by kernel_rfl) (fun _ => by kernel_rfl)) ?_
    refine eachOp_cons (ok_val (by kernel_rfl) (by kernel_rfl) (fun _ => by kernel_rfl)) ?_
    exact eachOp_nil
  intro W hW
  rename_i hK
  refine hK _ _ ?_
  have HI2 := Lib.hid hW
  have hw2 := hW.1
  clear hW HI
  simp only [finA, List.take_succ_cons, List.take_zero, List.cons_append, List.nil_append, List.set_cons_succ, List.set_cons_zero]
  go_wp2_with fail
  go_ret2
  exact ⟨rfl, hw2⟩
set_option maxHeartbeats 4000000 in
theorem r_Less_fits (x y v u f : Nm) (r : Bool) (w : World) (HN : Hid (∀ w, Calls Tryd.prog 67 #[f.v] w (Gives (.bool r) w)))
    (HBX : Hid (InTwo w w.heap.size (w.heap.size + 1) x y ((w.alloc (.cells #[.int .i64 x.A, .int .i64 x.B, .int .i64 x.C, .int .i64 x.D, .int .i64 x.K] 23)).alloc (.cells #[.int .i64 y.A, .int .i64 y.B, .int .i64 y.C, .int .i64 y.D, .int .i64 y.K] 23))))
    (HC : Hid (∀ (b T : Nat) (w : World), Two w b T x y → Calls Tryd.prog 35 #[.slice (some ⟨b, 0, none⟩) 2 2] w (Gives (.int .i64 0) w)))
    (J1 : Hid (∀ w, Calls Tryd.prog 58 #[x.v] w (Gives v.v w)))
    (J2 : Hid (∀ w, Calls Tryd.prog 58 #[y.v] w (Gives u.v w)))
    (E1 : Hid (∀ w, Calls Tryd.prog 66 #[x.v, v.v] w (Gives (.bool true) w)))
    (E2 : Hid (∀ w, Calls Tryd.prog 66 #[y.v, u.v] w (Gives (.bool true) w)))
    (HS : Hid (∀ w, Calls Tryd.prog 9 #[x.v, y.v] w (Gives (.tuple #[f.v, .int .i64 0]) w))) :
    Calls Tryd.prog 26 #[x.v, y.v] w (Gives (.tuple #[.bool r, .int .i64 0]) w) := by
  go_enter Tryd.func26, Tryd.ntmps26
  go_wp2_with fail
  refine (HC.out _ _ _ (two_new2 w _ _ x y _)).mono ?_
  rintro e w1 ⟨rfl, hb⟩
  have h1 := (HBX.out.al _).call hb
  clear hb HBX HC
  go_wp2_with fail
  have HI := Lib.hid h1
  clear h1
  refine region_fin (InTwo w w.heap.size (w.heap.size + 1) x y) 16 [x.v, x.v, v.v, .bool true, .bool false, .bool false, y.v, y.v, u.v, .bool true, .bool false, .bool false, undef, undef, undef, undef, undef, undef, undef, undef, undef, undef, undef, undef, undef] 16 x.v (by kernel_rfl) (by kernel_rfl) (by kernel_rfl) (outV_fin _ 12 (by kernel_rfl) (Nat.le_of_ble_eq_true (by kernel_rfl)) (Nat.le_of_ble_eq_true (by kernel_rfl)) (by kernel_rfl)) (HI.out.call (below_dN (Below.refl _ _) 1)) ?_ ?_
  rotate_left
  · clear HI
    refine eachOp_cons (ok_load (by kernel_rfl) (by kernel_rfl) (fun _ hC => load_num (b := w.heap.size) (x := x) rfl (by kernel_rfl) hC.2.1)) ?_
    refine eachOp_cons (ok_load (by kernel_rfl) (by kernel_rfl) (fun _ hC => load_num (b := w.heap.size) (x := x) rfl (by kernel_rfl) hC.2.1)) ?_
    refine eachOp_cons (ok_call 58 #[x.v] (by kernel_rfl) (by kernel_rfl) (fun _ => by kernel_rfl) (fun W hC => (J1.out W).mono fun _ _ h => ⟨h.1, hC.call h.2⟩)) ?_
    refine eachOp_cons (ok_call 66 #[x.v, v.v] (by kernel_rfl) (by kernel_rfl) (fun _ => by kernel_rfl) (fun W hC => (E1.out W).mono fun _ _ h => ⟨h.1, hC.call h.2⟩)) ?_
    refine eachOp_cons (ok_val (by kernel_rfl) (by kernel_rfl) (fun _ => by kernel_rfl)) ?_
    refine eachOp_cons (ok_val (by kernel_rfl) (by kernel_rfl) (fun _ => by kernel_rfl)) ?_
    refine eachOp_cons (ok_load (by kernel_rfl) (by kernel_rfl) (fun _ hC => load_num (b := w.heap.size + 1) (x := y) rfl (by kernel_rfl) hC.2.2)) ?_
    refine eachOp_cons (ok_load (by kernel_rfl) (by kernel_rfl) (fun _ hC => load_num (b := w.heap.size + 1) (x := y) rfl (by kernel_rfl) hC.2.2)) ?_
    refine eachOp_cons (ok_call 58 #[y.v] (by kernel_rfl) (by kernel_rfl) (fun _ => by kernel_rfl) (fun W hC => (J2.out W).mono fun _ _ h => ⟨h.1, hC.call h.2⟩)) ?_
    refine eachOp_cons (ok_call 66 #[y.v, u.v] (by kernel_rfl) (by kernel_rfl) (fun _ => by kernel_rfl) (fun W hC => (E2.out W).mono fun _ _ h => ⟨h.1, hC.call h.2⟩)) ?_
    refine eachOp_cons (ok_val (by kernel_rfl) (by kernel_rfl) (fun _ => by kernel_rfl)) ?_
    refine eachOp_cons (ok_val (by kernel_rfl) (by kernel_rfl) (fun _ => by kernel_rfl)) ?_
    exact eachOp_nil
  intro W hW
  rename_i hK
  refine hK _ _ ?_
  have HI2 := Lib.hid hW
  have hw2 := hW.1
  clear hW HI
  simp only [finA, List.take_succ_cons, List.take_zero, List.cons_append, List.nil_append, List.set_cons_succ, List.set_cons_zero]
  have hcells := HI2.out
  obtain ⟨c0, c1, c2, c3, c4⟩ := hcells.2.1.cell
  obtain ⟨d0, d1, d2, d3, d4⟩ := hcells.2.2.cell
  have hltx := hcells.2.1.lt
  have hlty := hcells.2.2.lt
  clear hcells
  go_wp2_with fail
  refine (HS.out _).mono ?_
  rintro e w2 ⟨rfl, hb2⟩
  have HI3 := Lib.hid (HI2.out.call hb2)
  clear c0 c1 c2 c3 c4 d0 d1 d2 d3 d4 hltx hlty
  have hw3 := HI3.out.1
  go_wp2_with fail
  refine (HN.out _).mono ?_
  rintro e w3 ⟨rfl, hb3⟩
  have hw4 := below_via hb3 (below_al hw3 _)
  go_wp2_with fail
  go_ret2
  exact ⟨rfl, hw4⟩
set_option maxHeartbeats 4000000 in
theorem r_Less_clash (x y v u f : Nm) (q : Int) (by_ : Bool) (w : World) (hq : (q == 0) = false)
    (HBX : Hid (InTwo w w.heap.size (w.heap.size + 1) x y ((w.alloc (.cells #[.int .i64 x.A, .int .i64 x.B, .int .i64 x.C, .int .i64 x.D, .int .i64 x.K] 23)).alloc (.cells #[.int .i64 y.A, .int .i64 y.B, .int .i64 y.C, .int .i64 y.D, .int .i64 y.K] 23))))
    (HC : Hid (∀ (b T : Nat) (w : World), Two w b T x y → Calls Tryd.prog 35 #[.slice (some ⟨b, 0, none⟩) 2 2] w (Gives (.int .i64 0) w)))
    (J1 : Hid (∀ w, Calls Tryd.prog 58 #[x.v] w (Gives v.v w)))
    (J2 : Hid (∀ w, Calls Tryd.prog 58 #[y.v] w (Gives u.v w)))
    (E1 : Hid (∀ w, Calls Tryd.prog 66 #[x.v, v.v] w (Gives (.bool true) w)))
    (E2 : Hid (∀ w, Calls Tryd.prog 66 #[y.v, u.v] w (Gives (.bool true) w)))
    (HS : Hid (∀ w, Calls Tryd.prog 9 #[x.v, y.v] w (Gives (.tuple #[f.v, .int .i64 q]) w))) :
    Calls Tryd.prog 26 #[x.v, y.v] w (Gives (.tuple #[.bool false, .int .i64 q]) w) := by
  go_enter Tryd.func26, Tryd.ntmps26
  go_wp2_with fail
  refine (HC.out _ _ _ (two_new2 w _ _ x y _)).mono ?_
  rintro e w1 ⟨rfl, hb⟩
  have h1 := (HBX.out.al _).call hb
  clear hb HBX HC
  go_wp2_with fail
  have HI := Lib.hid h1
  clear h1
  refine region_fin (InTwo w w.heap.size (w.heap.size + 1) x y) 16 [x.v, x.v, v.v, .bool true, .bool false, .bool false, y.v, y.v, u.v, .bool true, .bool false, .bool false, undef, undef, undef, undef, undef, undef, undef, undef, undef, undef, undef, undef, undef] 16 x.v (by kernel_rfl) (by kernel_rfl) (by kernel_rfl) (outV_fin _ 12 (by kernel_rfl) (Nat.le_of_ble_eq_true (by kernel_rfl)) (Nat.le_of_ble_eq_true (by kernel_rfl)) (by kernel_rfl)) (HI.out.call (below_dN (Below.refl _ _) 1)) ?_ ?_
  rotate_left
  · clear HI
    refine eachOp_cons (ok_load (by kernel_rfl) (by kernel_rfl) (fun _ hC => load_num (b := w.heap.size) (x := x) rfl (by kernel_rfl) hC.2.1)) ?_
    refine eachOp_cons (ok_load (by kernel_rfl) (by kernel_rfl) (fun _ hC => load_num (b := w.heap.size) (x := x) rfl (by kernel_rfl) hC.2.1)) ?_
    refine eachOp_cons (ok_call 58 #[x.v] (by kernel_rfl) (by kernel_rfl) (fun _ => by kernel_rfl) (fun W hC => (J1.out W).mono fun _ _ h => ⟨h.1, hC.call h.2⟩)) ?_
    refine eachOp_cons (ok_call 66 #[x.v, v.v] (by kernel_rfl) (by kernel_rfl) (fun _ => by kernel_rfl) (fun W hC => (E1.out W).mono fun _ _ h => ⟨h.1, hC.call h.2⟩)) ?_
    refine eachOp_cons (ok_val (by kernel_rfl) (by kernel_rfl) (fun _ => by kernel_rfl)) ?_
    refine eachOp_cons (ok_val (by kernel_rfl) (by kernel_rfl) (fun _ => by kernel_rfl)) ?_
    refine eachOp_cons (ok_load (by kernel_rfl) (by kernel_rfl) (fun _ hC => load_num (b := w.heap.size + 1) (x := y) rfl (by kernel_rfl) hC.2.2)) ?_
    refine eachOp_cons (ok_load (by kernel_rfl) (by kernel_rfl) (fun _ hC => load_num (b := w.heap.size + 1) (x := y) rfl (by kernel_rfl) hC.2.2)) ?_
    refine eachOp_cons (ok_call 58 #[y.v] (by kernel_rfl) (by kernel_rfl) (fun _ => by kernel_rfl) (fun W hC => (J2.out W).mono fun _ _ h => ⟨h.1, hC.call h.2⟩)) ?_
    refine eachOp_cons (ok_call 66 #[y.v, u.v] (by kernel_rfl) (by kernel_rfl) (fun _ => by kernel_rfl) (fun W hC => (E2.out W).mono fun _ _ h => ⟨h.1, hC.call h.2⟩)) ?_
    refine eachOp_cons (ok_val (by kernel_rfl) (by kernel_rfl) (fun _ => by kernel_rfl)) ?_
    refine eachOp_cons (ok_val (by kernel_rfl) (by kernel_rfl) (fun _ => by kernel_rfl)) ?_
    exact eachOp_nil
  intro W hW
  rename_i hK
  refine hK _ _ ?_
  have HI2 := Lib.hid hW
  have hw2 := hW.1
  clear hW HI
  simp only [finA, List.take_succ_cons, List.take_zero, List.cons_append, List.nil_append, List.set_cons_succ, List.set_cons_zero]
  have hcells := HI2.out
  obtain ⟨c0, c1, c2, c3, c4⟩ := hcells.2.1.cell
  obtain ⟨d0, d1, d2, d3, d4⟩ := hcells.2.2.cell
  have hltx := hcells.2.1.lt
  have hlty := hcells.2.2.lt
  clear hcells
  go_wp2_with fail
  refine (HS.out _).mono ?_
  rintro e w2 ⟨rfl, hb2⟩
  have HI3 := Lib.hid (HI2.out.call hb2)
  clear c0 c1 c2 c3 c4 d0 d1 d2 d3 d4 hltx hlty
  have hw3 := HI3.out.1
  go_wp2_with fail
  have hw4 := below_al hw3 (.cells #[.int .i64 f.A, .int .i64 f.B, .int .i64 f.C, .int .i64 f.D, .int .i64 f.K] 23)
  go_ret2
  exact ⟨rfl, hw4⟩

def lessV (x y : Nm) : Value := .tuple #[.bool (lessN x y), .int .i64 (lessE x y)]
set_option maxHeartbeats 4000000 in
theorem r_Less (x y : Nm) (w : World) : Calls Tryd.prog 26 #[x.v, y.v] w (Gives (lessV x y) w) := by
  have hbx : InTwo w w.heap.size (w.heap.size + 1) x y ((w.alloc (.cells #[.int .i64 x.A, .int .i64 x.B, .int .i64 x.C, .int .i64 x.D, .int .i64 x.K] 23)).alloc (.cells #[.int .i64 y.A, .int .i64 y.B, .int .i64 y.C, .int .i64 y.D, .int .i64 y.K] 23)) := by
    refine ⟨(by repeat (first | with_reducible exact Below.refl _ _ | with_reducible refine below_al ?_ _ | with_reducible refine below_dN ?_ _ | with_reducible refine Below.drew ?_ | (with_reducible refine Below.setCell ?_ (by simp <;> omega) _) | (with_reducible refine below_via (by assumption) ?_))), box_al (box_new w _ _ _ _ _ _) _, ?_⟩
    have h := box_new (w.alloc (.cells #[.int .i64 x.A, .int .i64 x.B, .int .i64 x.C, .int .i64 x.D, .int .i64 x.K] 23)) y.A y.B y.C y.D y.K 23
    rw [World.size_alloc] at h
    exact h
  have HBX := Lib.hid hbx
  clear hbx
  have HC : Hid (∀ (b T : Nat) (w : World), Two w b T x y → Calls Tryd.prog 35 #[.slice (some ⟨b, 0, none⟩) 2 2] w (Gives (.int .i64 (chk2 x y)) w)) := fun b T w h => r_checks2 x y b T w h
  unfold lessV lessN lessE
  by_cases h : chk2 x y = 0
  · have h12 := chk2_ok h
    have hk1 := chk_ok (A := x.A) (B := x.B) (C := x.C) (D := x.D) (K := x.K) h12.1
    have hk2 := chk_ok (A := y.A) (B := y.B) (C := y.C) (D := y.D) (K := y.K) h12.2
    have w1' : x.wide := right_wide h12.1
    have w2' : y.wide := right_wide h12.2
    have J1 : Hid (∀ w, Calls Tryd.prog 58 #[x.v] w (Gives (conjN x).v w)) := fun w => r_conjugate _ _ _ _ _ w w1'
    have J2 : Hid (∀ w, Calls Tryd.prog 58 #[y.v] w (Gives (conjN y).v w)) := fun w => r_conjugate _ _ _ _ _ w w2'
    have E1 : Hid (∀ w, Calls Tryd.prog 66 #[x.v, (conjN x).v] w (Gives (.bool (realN x)) w)) := fun w => by
      rw [← real_least (x := x) (by omega)]
      exact r_equal x (conjN x) w w1' (conjN_wide w1') (by omega) (by have e : (conjN x).K = x.K := rfl; omega)
    have E2 : Hid (∀ w, Calls Tryd.prog 66 #[y.v, (conjN y).v] w (Gives (.bool (realN y)) w)) := fun w => by
      rw [← real_least (x := y) (by omega)]
      exact r_equal y (conjN y) w w2' (conjN_wide w2') (by omega) (by have e : (conjN y).K = y.K := rfl; omega)
    have HS : Hid (∀ w, Calls Tryd.prog 9 #[x.v, y.v] w (Gives (subV x y) w)) := fun w => r_Sub x y w
    unfold subV at HS
    rw [h] at HC
    rw [if_pos h, if_pos h]
    by_cases r1 : realN x = true
    · rw [r1] at E1
      by_cases r2 : realN y = true
      · rw [r2] at E2
        have hr := And.intro r1 r2
        rw [if_pos hr, if_pos hr]
        by_cases hq : jointE x y (subN x y) = 0
        · have hi := joint_inb h hq
          simp only [Nm.inb, inb, decide_eq_true_eq] at hi
          rw [hq] at HS ⊢
          rw [if_pos rfl]
          exact r_Less_fits x y _ _ _ _ w (fun w => r_Negative _ _ _ _ _ w (by omega) (by omega)) HBX HC J1 J2 E1 E2 HS
        · rw [if_neg hq]
          exact r_Less_clash x y _ _ _ _ true w (beq_eq_false_iff_ne.2 hq) HBX HC J1 J2 E1 E2 HS
      · rw [Bool.not_eq_true] at r2
        rw [r2] at E2
        have hr : ¬ (realN x = true ∧ realN y = true) := fun h => by rw [r2] at h; exact absurd h.2 (by decide)
        rw [if_neg hr, if_neg hr]
        exact r_Less_two x y _ _ _ _ false w HBX HC J1 J2 E1 E2 HS
    · rw [Bool.not_eq_true] at r1
      rw [r1] at E1
      have hr : ¬ (realN x = true ∧ realN y = true) := fun h => by rw [r1] at h; exact absurd h.1 (by decide)
      rw [if_neg hr, if_neg hr]
      exact r_Less_one x y _ _ _ _ _ w HBX HC J1 J2 E1 E2 HS
  · have h2 : (chk2 x y != 0) = true := bne_iff_ne.2 h
    rw [if_neg h, if_neg h]
    generalize chk2 x y = q at *
    clear h
    go_enter Tryd.func26, Tryd.ntmps26
    go_wp2_with fail
    refine (HC.out _ _ _ (two_new2 w _ _ x y _)).mono ?_
    rintro e w1 ⟨rfl, hb⟩
    have h1 := (HBX.out.al _).call hb
    have hw1 := h1.1
    clear h1
    go_wp2_with fail
    go_ret2
    exact ⟨rfl, hw1⟩
end Go.Proofs.YtjalpolciofphaaDoor
