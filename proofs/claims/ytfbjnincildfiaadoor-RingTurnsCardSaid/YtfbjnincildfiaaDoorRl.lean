/- The law RingLeast, for all numbers. -/
import Derived.Test.YtfbjnincildfiaaDoorRe
import Derived.Test.YtfbjnincildfiaaDoorAw
set_option linter.all false
set_option maxRecDepth 100000
namespace Go.Proofs.YtfbjnincildfiaaDoor
open Go.RowKit Go.Shelf

/-- Two integers are compared. -/
theorem eql_int {o : Oper} {a : Act} {s t : Operand} {p q : Int} {b : Bool} {T : TypeId} {W : World} (ho : o.op = .binOp .eql T s t T) (hT : Tryd.prog.underlying T = some (.int .i64)) (hs : a.eval s = .int .i64 p) (ht : a.eval t = .int .i64 q) (hb : (p == q) = b) :
    (execOp a.eval o).run Tryd.prog W = .ok (.value (.bool b)) W := by
  obtain ⟨dst, op, ty, pos, af, gd⟩ := o
  dsimp only at ho
  subst ho
  subst hb
  generalize a.eval = e at *
  simp [go_sem, hs, ht, hT]
/-- Two Bools are compared. -/
theorem eql_bool {o : Oper} {a : Act} {s t : Operand} {p q b : Bool} {T : TypeId} {W : World} (ho : o.op = .binOp .eql T s t T) (hT : Tryd.prog.underlying T = some .bool) (hs : a.eval s = .bool p) (ht : a.eval t = .bool q) (hb : (p == q) = b) :
    (execOp a.eval o).run Tryd.prog W = .ok (.value (.bool b)) W := by
  obtain ⟨dst, op, ty, pos, af, gd⟩ := o
  dsimp only at ho
  subst ho
  subst hb
  generalize a.eval = e at *
  simp [go_sem, hs, ht, hT]
theorem Got.two (w : World) (x y : Nm) : Got w [(w.heap.size + 1, y), (w.heap.size, x)] ((w.alloc (.cells #[.int .i64 x.A, .int .i64 x.B, .int .i64 x.C, .int .i64 x.D, .int .i64 x.K] 23)).alloc (.cells #[.int .i64 y.A, .int .i64 y.B, .int .i64 y.C, .int .i64 y.D, .int .i64 y.K] 23)) := by
  have h := ((Got.none w).box x).box y
  rw [World.size_alloc] at h
  exact h
/-- What the library's and the program's variables hold, in the worlds behind w. -/
def Vars (w : World) : Prop := NamesAre w ∧ CutVar w ∧ Lib.TabIs Tryd.prog w "internal/strconv.uint64pow10" .u64 Lib.pow10Tab
theorem awake_below {w w' : World} (h : Vars w) (hb : Below w.heap.size w w') : Calls Tryd.prog 13 #[] w' (Gives (.bool true) w') :=
  awake_any w' (h.1.below hb) (h.2.1.below hb) (Lib.tabBelow_of_tabIs h.2.2 w' hb)

set_option maxHeartbeats 4000000 in
theorem RingLeast_any (x y : Nm) (w : World) (hv : Vars w) : Calls Tryd.prog 3 #[x.v, y.v] w (Gives (.bool true) w) := by
  have HA : Hid (∀ w', Below w.heap.size w w' → Calls Tryd.prog 13 #[] w' (Gives (.bool true) w')) := fun w' hb => awake_below hv hb
  have H1 : Hid (∀ w, Calls Tryd.prog 7 #[x.v] w (Gives (.tuple #[(if x.chk = 0 then x.least else nul).v, .int .i64 x.chk]) w)) := fun w => r_least x.A x.B x.C x.D x.K w
  have H2 : Hid (∀ w, Calls Tryd.prog 8 #[x.v, y.v] w (Gives (.tuple #[.bool (if chk2 x y = 0 then eq5 x.least y.least else false), .int .i64 (chk2 x y)]) w)) := fun w => r_same x y w
  have H3 : Hid (∀ w, Calls Tryd.prog 9 #[x.v] w (Gives (.tuple #[(if x.chk = 0 then x.least else nul).v, .int .i64 x.chk]) w)) := fun w => Least_any x.A x.B x.C x.D x.K w
  have H4 : Hid (∀ w, Calls Tryd.prog 10 #[x.v, y.v] w (Gives (.tuple #[.bool (if chk2 x y = 0 then eq5 x.least y.least else false), .int .i64 (chk2 x y)]) w)) := fun w => by
    have h := Same_any x.A x.B x.C x.D x.K y.A y.B y.C y.D y.K w
    rw [same_eq5] at h
    exact h
  have H5 : Hid (∀ w, Calls Tryd.prog 11 #[x.v] w (Gives (.int .i64 x.chk) w)) := fun w => check_any x.A x.B x.C x.D x.K w
  have H6 : Hid (∀ w, Calls Tryd.prog 12 #[x.v] w (Gives (.int .i64 x.chk) w)) := fun w => r_check x.A x.B x.C x.D x.K w
  have G0 := Lib.hid (Got.two w x y)
  clear hv
  generalize (if x.chk = 0 then x.least else nul) = r at *
  generalize (if chk2 x y = 0 then eq5 x.least y.least else false) = sb at *
  generalize chk2 x y = q2 at *
  generalize x.chk = q at *
  go_enter Tryd.func3, Tryd.ntmps3
  go_wp2_with fail
  refine (H1.out _).mono ?_
  rintro e u1 ⟨rfl, hb⟩
  have g1 := G0.out.call hb
  obtain ⟨y0, y1, y2, y3, y4⟩ := (g1.2 _ (.head _)).cell
  obtain ⟨x0, x1, x2, x3, x4⟩ := (g1.2 _ (.tail _ (.head _))).cell
  have hlt := (g1.2 _ (.head _)).lt
  dsimp only at x0 x1 x2 x3 x4 y0 y1 y2 y3 y4 hlt
  have hlt0 : w.heap.size < u1.heap.size := by omega
  have G1 := Lib.hid (g1.box r)
  clear g1 hb G0
  go_wp2_with fail
  refine (H2.out _).mono ?_
  rintro e u2 ⟨rfl, hb⟩
  have g2 := G1.out.call hb
  clear x0 x1 x2 x3 x4 y0 y1 y2 y3 y4 hlt hlt0 G1 hb
  obtain ⟨y0, y1, y2, y3, y4⟩ := (g2.2 _ (.tail _ (.head _))).cell
  obtain ⟨x0, x1, x2, x3, x4⟩ := (g2.2 _ (.tail _ (.tail _ (.head _)))).cell
  have hlt := (g2.2 _ (.tail _ (.head _))).lt
  dsimp only at x0 x1 x2 x3 x4 y0 y1 y2 y3 y4 hlt
  have hlt0 : w.heap.size < u2.heap.size := by omega
  have G2 := Lib.hid g2
  clear g2
  go_wp2_with fail
  refine (H3.out _).mono ?_
  rintro e u3 ⟨rfl, hb⟩
  have g3 := G2.out.call hb
  clear x0 x1 x2 x3 x4 y0 y1 y2 y3 y4 hlt hlt0 G2 hb
  obtain ⟨y0, y1, y2, y3, y4⟩ := (g3.2 _ (.tail _ (.head _))).cell
  obtain ⟨x0, x1, x2, x3, x4⟩ := (g3.2 _ (.tail _ (.tail _ (.head _)))).cell
  have hlt := (g3.2 _ (.tail _ (.head _))).lt
  dsimp only at x0 x1 x2 x3 x4 y0 y1 y2 y3 y4 hlt
  have hlt0 : w.heap.size < u3.heap.size := by omega
  have G3 := Lib.hid (g3.box r)
  clear g3
  go_wp2_with fail
  refine (H4.out _).mono ?_
  rintro e u4 ⟨rfl, hb⟩
  have G4 := Lib.hid (G3.out.call hb)
  clear x0 x1 x2 x3 x4 y0 y1 y2 y3 y4 hlt hlt0 G3 hb
  go_wp2_with fail
  refine region_fin (Got w _) 35 [x.v, .int .i64 q, x.v, .int .i64 q, .bool true, .bool true, .int .i64 q, .int .i64 q, .bool true, .bool true, .bool true, .int .i64 q2, .int .i64 q2, .bool true, .bool true, .bool true, r.v, r.v, .bool true, .bool true, .bool true, .bool sb, .bool sb, .bool true, .bool true, .bool true, .bool true, .bool true] 4 (.bool true) (by kernel_rfl) (by kernel_rfl) (by kernel_rfl) (by kernel_rfl) (G4.out.call (below_dN (Below.refl _ _) 1)) ?_ ?_
  · intro w' hC
    rename_i hK
    refine hK _ _ ?_
    refine wp_ret ?_
    exact bodyPost_ret (v := .bool true) (by kernel_rfl) rfl ⟨rfl, hC.1⟩
  have hq : (q == q) = true := by simp
  have hq2 : (q2 == q2) = true := by simp
  have hsb : (sb == sb) = true := by simp
  refine eachOp_cons (ok_load (by kernel_rfl) (by kernel_rfl) (fun _ hC => load_num (b := w.heap.size) (x := x) rfl (by kernel_rfl) (hC.2 _ (.tail _ (.tail _ (.tail _ (.head _))))))) ?_
  refine eachOp_cons (ok_call 11 #[x.v] (by kernel_rfl) (by kernel_rfl) (fun _ => by kernel_rfl) (fun w' hC => (H5.out w').mono fun _ _ h => ⟨h.1, hC.call h.2⟩)) ?_
  refine eachOp_cons (ok_load (by kernel_rfl) (by kernel_rfl) (fun _ hC => load_num (b := w.heap.size) (x := x) rfl (by kernel_rfl) (hC.2 _ (.tail _ (.tail _ (.tail _ (.head _))))))) ?_
  refine eachOp_cons (ok_call 12 #[x.v] (by kernel_rfl) (by kernel_rfl) (fun _ => by kernel_rfl) (fun w' hC => (H6.out w').mono fun _ _ h => ⟨h.1, hC.call h.2⟩)) ?_
  refine eachOp_cons (ok_val (by kernel_rfl) (by kernel_rfl) (fun _ => eql_int (p := q) (q := q) rfl (by kernel_rfl) (by kernel_rfl) (by kernel_rfl) hq)) ?_
  refine eachOp_cons (ok_val (by kernel_rfl) (by kernel_rfl) (fun _ => by kernel_rfl)) ?_
  refine eachOp_cons (ok_val (by kernel_rfl) (by kernel_rfl) (fun _ => by kernel_rfl)) ?_
  refine eachOp_cons (ok_val (by kernel_rfl) (by kernel_rfl) (fun _ => by kernel_rfl)) ?_
  refine eachOp_cons (ok_val (by kernel_rfl) (by kernel_rfl) (fun _ => eql_int (p := q) (q := q) rfl (by kernel_rfl) (by kernel_rfl) (by kernel_rfl) hq)) ?_
  refine eachOp_cons (ok_val (by kernel_rfl) (by kernel_rfl) (fun _ => by kernel_rfl)) ?_
  refine eachOp_cons (ok_val (by kernel_rfl) (by kernel_rfl) (fun _ => by kernel_rfl)) ?_
  refine eachOp_cons (ok_val (by kernel_rfl) (by kernel_rfl) (fun _ => by kernel_rfl)) ?_
  refine eachOp_cons (ok_val (by kernel_rfl) (by kernel_rfl) (fun _ => by kernel_rfl)) ?_
  refine eachOp_cons (ok_val (by kernel_rfl) (by kernel_rfl) (fun _ => eql_int (p := q2) (q := q2) rfl (by kernel_rfl) (by kernel_rfl) (by kernel_rfl) hq2)) ?_
  refine eachOp_cons (ok_val (by kernel_rfl) (by kernel_rfl) (fun _ => by kernel_rfl)) ?_
  refine eachOp_cons (ok_val (by kernel_rfl) (by kernel_rfl) (fun _ => by kernel_rfl)) ?_
  refine eachOp_cons (ok_load (by kernel_rfl) (by kernel_rfl) (fun _ hC => load_num (b := u3.heap.size) (x := r) rfl (by kernel_rfl) (hC.2 _ (.head _)))) ?_
  refine eachOp_cons (ok_load (by kernel_rfl) (by kernel_rfl) (fun _ hC => load_num (b := u1.heap.size) (x := r) rfl (by kernel_rfl) (hC.2 _ (.tail _ (.head _))))) ?_
  refine eachOp_cons (ok_val (by kernel_rfl) (by kernel_rfl) (fun _ => eql_num (x := r) (y := r) rfl (by kernel_rfl) (by kernel_rfl) ((eq5_iff r r).2 rfl))) ?_
  refine eachOp_cons (ok_val (by kernel_rfl) (by kernel_rfl) (fun _ => by kernel_rfl)) ?_
  refine eachOp_cons (ok_val (by kernel_rfl) (by kernel_rfl) (fun _ => by kernel_rfl)) ?_
  refine eachOp_cons (ok_val (by kernel_rfl) (by kernel_rfl) (fun _ => by kernel_rfl)) ?_
  refine eachOp_cons (ok_val (by kernel_rfl) (by kernel_rfl) (fun _ => by kernel_rfl)) ?_
  refine eachOp_cons (ok_val (by kernel_rfl) (by kernel_rfl) (fun _ => eql_bool (p := sb) (q := sb) rfl (by kernel_rfl) (by kernel_rfl) (by kernel_rfl) hsb)) ?_
  refine eachOp_cons (ok_val (by kernel_rfl) (by kernel_rfl) (fun _ => by kernel_rfl)) ?_
  refine eachOp_cons (ok_val (by kernel_rfl) (by kernel_rfl) (fun _ => by kernel_rfl)) ?_
  refine eachOp_cons (ok_call 13 #[] (by kernel_rfl) (by kernel_rfl) (fun _ => by kernel_rfl) (fun w' hC => (HA.out w' hC.1).mono fun _ _ h => ⟨h.1, hC.call h.2⟩)) ?_
  refine eachOp_cons (ok_val (by kernel_rfl) (by kernel_rfl) (fun _ => by kernel_rfl)) ?_
  refine eachOp_cons (ok_val (by kernel_rfl) (by kernel_rfl) (fun _ => by kernel_rfl)) ?_
  exact eachOp_nil
end Go.Proofs.YtfbjnincildfiaaDoor
