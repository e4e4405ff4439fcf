/- The law RingLeast, for all numbers. -/
import Derived.Test.YtcdmcndjbajhlaaGreatDoorMa
import Derived.Test.YtcdmcndjbajhlaaGreatDoorPh
import Derived.Test.YtcdmcndjbajhlaaGreatDoorJb
import Derived.Test.YtcdmcndjbajhlaaGreatDoorAw
set_option linter.all false
set_option maxRecDepth 100000
namespace Go.Proofs.YtcdmcndjbajhlaaGreatDoor

/-- x times w. -/
def wN (x : Nm) : Nm := ⟨-x.D, x.A, x.B, x.C, x.K⟩
def wNn : Nat → Nm → Nm
  | 0, x => x
  | n + 1, x => wN (wNn n x)
theorem mulN_pw_succ (y : Nm) (n : Nat) : mulN y (pw (n + 1)) = wN (mulN y (pw n)) := by
  have h := pw_K n
  apply Nm.ext5 <;> simp only [mulN, pw, wN, Int.mul_neg, Int.add_zero] <;> omega
theorem mulN_pw (y : Nm) (n : Nat) : mulN y (pw n) = wNn n y := by
  induction n with
  | zero => apply Nm.ext5 <;> simp [mulN, pw, wNn]
  | succ n ih => rw [mulN_pw_succ, ih]; rfl
theorem wN_even (x : Nm) : (wN x).even = x.even := by
  simp only [Nm.even, wN]
  exact decide_eq_decide.2 (by omega)
theorem wN_half {x : Nm} (h : x.even = true) : (wN x).half = wN x.half := by
  simp only [Nm.even, decide_eq_true_eq] at h
  apply Nm.ext5 <;> simp only [wN, Nm.half] <;> omega
theorem wN_zero (x : Nm) : (wN x).zero = x.zero := by
  simp only [Nm.zero, wN]
  exact decide_eq_decide.2 (by omega)
theorem wN_form (n : Nat) (x : Nm) : form n (wN x) = wN (form n x) := by
  induction n generalizing x with
  | zero => rfl
  | succ n ih =>
    rw [form, form, wN_even]
    split
    · rename_i he
      rw [wN_half he, ih]
    · rfl
theorem wN_least (x : Nm) : (wN x).least = wN x.least := by
  unfold Nm.least
  rw [wN_zero]
  split
  · rfl
  · rw [wN_form]; rfl
theorem wNn_least (n : Nat) (x : Nm) : (wNn n x).least = wNn n x.least := by
  induction n with
  | zero => rfl
  | succ n ih => rw [wNn, wN_least, ih]; rfl
theorem wNn_K (n : Nat) (x : Nm) : (wNn n x).K = x.K := by
  induction n with
  | zero => rfl
  | succ n ih => rw [wNn]; exact ih
/-- Does power n lead from y to x? -/
def hitN (x y : Nm) (n : Nat) : Bool := eq5 x.least (mulN y (pw n)).least
theorem hit_least (x y : Nm) (n : Nat) : hitN x y n = (decide (x.least.K = y.least.K) && same4 x.least (mulN y.least (pw n))) := by
  unfold hitN
  rw [mulN_pw, wNn_least, mulN_pw]
  rw [Bool.eq_iff_iff, eq5_iff, Bool.and_eq_true, decide_eq_true_eq]
  have hk := wNn_K n y.least
  unfold same4 eq4
  rw [decide_eq_true_eq]
  constructor
  · intro h; rw [h]; exact ⟨hk, rfl, rfl, rfl, rfl⟩
  · rintro ⟨h0, h1, h2, h3, h4⟩; exact Nm.ext5 h1 h2 h3 h4 (by omega)
/-- The first power from n on, of m, or none. -/
def firstHit (x y : Nm) : Nat → Nat → Option Nat
  | 0, _ => none
  | m + 1, n => if hitN x y n = true then some n else firstHit x y m (n + 1)
theorem same4_iff (x y : Nm) : same4 x y = true ↔ x.A = y.A ∧ x.B = y.B ∧ x.C = y.C ∧ x.D = y.D := by
  unfold same4 eq4; rw [decide_eq_true_eq]
theorem lookN_append (r : Nm) (l : List (Nm × Int)) (p : Nm × Int) : lookN r (l ++ [p]) = (lookN r l).or (if same4 r p.1 = true then some p.2 else none) := by
  induction l with
  | nil => simp [lookN]
  | cons q l ih =>
    simp only [List.cons_append, lookN]
    split
    · simp
    · exact ih
theorem lookN_congr {r t : Nm} (h : same4 r t = true) (l : List (Nm × Int)) : lookN r l = lookN t l := by
  induction l with
  | nil => rfl
  | cons q l ih =>
    have e : same4 r q.1 = same4 t q.1 := by
      rw [Bool.eq_iff_iff, same4_iff, same4_iff]
      rw [same4_iff] at h
      omega
    simp only [lookN, e, ih]
theorem lookN_step (r s : Nm) (l : List (Nm × Int)) (x : Nat) : lookN r (stepF s l x) = (lookN r l).or (if same4 r (mulN s (pw x)) = true then some (x : Int) else none) := by
  unfold stepF
  split
  · rename_i h
    split
    · rename_i h2
      rw [lookN_congr h2, Option.isSome_iff_exists] at *
      obtain ⟨v, hv⟩ := h
      rw [hv]; rfl
    · simp
  · rw [lookN_append]
theorem lookN_firsts (r s : Nm) : ∀ (m n : Nat), (lookN r (firsts s (List.range n))).or ((List.range' n m).findSome? fun i => if same4 r (mulN s (pw i)) = true then some (i : Int) else none) = lookN r (firsts s (List.range (n + m)))
  | 0, n => by simp
  | m + 1, n => by
    have h := lookN_firsts r s m (n + 1)
    rw [show n + (m + 1) = n + 1 + m by omega, ← h, List.range_succ, firsts_push, lookN_step, List.range'_succ, List.findSome?_cons]
    cases lookN r (firsts s (List.range n)) <;> by_cases hq : same4 r (mulN s (pw n)) = true <;> simp [hq]
theorem firstHit_find (x y : Nm) : ∀ (m n : Nat), (firstHit x y m n).map (fun i : Nat => (i : Int)) = (List.range' n m).findSome? fun i => if hitN x y i = true then some (i : Int) else none
  | 0, n => rfl
  | m + 1, n => by
    rw [firstHit, List.range'_succ, List.findSome?_cons]
    split
    · simp
    · exact firstHit_find x y m (n + 1)
/-- What the reference's Phase answers, of right numbers. -/
def phaseR (x y : Nm) : Int × Int := match firstHit x y 8 0 with
  | some n => ((n : Int), 0)
  | none => (0, 6)
theorem phase_same (x y : Nm) : phaseN x.least y.least = phaseR x y := by
  have h1 := lookN_firsts x.least y.least 8 0
  have h2 := firstHit_find x y 8 0
  have h0 : firsts y.least (List.range 0) = [] := rfl
  rw [h0] at h1
  simp only [lookN, Option.none_or, Nat.zero_add] at h1
  unfold phaseN phaseR
  rw [← h1]
  by_cases hk : x.least.K = y.least.K
  · have e : (fun i => if hitN x y i = true then some (i : Int) else none) = fun i => if same4 x.least (mulN y.least (pw i)) = true then some (i : Int) else none := by
      funext i
      rw [hit_least, decide_eq_true hk, Bool.true_and]
    rw [e] at h2
    rw [← h2]
    cases firstHit x y 8 0 with
    | none => simp
    | some n => simp [hk]
  · have e : (fun i => if hitN x y i = true then some (i : Int) else none) = fun _ => none := by
      funext i
      rw [hit_least, decide_eq_false hk, Bool.false_and]
      rfl
    rw [e] at h2
    have h3 : firstHit x y 8 0 = none := by
      have : (List.range' 0 8).findSome? (fun _ : Nat => (none : Option Int)) = none := by simp
      rw [this] at h2
      cases hf : firstHit x y 8 0 with
      | none => rfl
      | some n => rw [hf] at h2; cases h2
    rw [h3]
    simp [hk]
theorem least_fine {y : Nm} (h : y.inb 1073741824 = true) (hK : 0 ≤ y.K ∧ y.K ≤ 60) : y.least.chk = 0 := by
  have h1 := least_inb (m := 1073741824) (by omega) h
  have h2 := least_K (x := y) hK.1
  unfold Nm.chk chk
  rw [if_neg (by omega)]
  exact if_pos h1
theorem chk_in {x : Nm} (h : x.chk = 0) : (0 ≤ x.K ∧ x.K ≤ 60) ∧ (-1073741824 ≤ x.A ∧ x.A ≤ 1073741824 ∧ -1073741824 ≤ x.B ∧ x.B ≤ 1073741824 ∧ -1073741824 ≤ x.C ∧ x.C ≤ 1073741824 ∧ -1073741824 ≤ x.D ∧ x.D ≤ 1073741824) := by
  have := chk_ok (A := x.A) (B := x.B) (C := x.C) (D := x.D) (K := x.K) h
  omega
end Go.Proofs.YtcdmcndjbajhlaaGreatDoor
namespace Go.Proofs.YtcdmcndjbajhlaaGreatDoor
open Go.RowKit Go.Shelf

/-- Two integers are compared. -/
theorem eql_int {o : Oper} {a : Act} {s t : Operand} {p q : Int} {b : Bool} {T : TypeId} {W : World} (ho : o.op = .binOp .eql T s t T) (hT : Tryz.prog.underlying T = some (.int .i64)) (hs : a.eval s = .int .i64 p) (ht : a.eval t = .int .i64 q) (hb : (p == q) = b) :
    (execOp a.eval o).run Tryz.prog W = .ok (.value (.bool b)) W := by
  obtain ⟨dst, op, ty, pos, af, gd⟩ := o
  dsimp only at ho
  subst ho
  subst hb
  generalize a.eval = e at *
  simp [go_sem, hs, ht, hT]
/-- Two Bools are compared. -/
theorem eql_bool {o : Oper} {a : Act} {s t : Operand} {p q b : Bool} {T : TypeId} {W : World} (ho : o.op = .binOp .eql T s t T) (hT : Tryz.prog.underlying T = some .bool) (hs : a.eval s = .bool p) (ht : a.eval t = .bool q) (hb : (p == q) = b) :
    (execOp a.eval o).run Tryz.prog W = .ok (.value (.bool b)) W := by
  obtain ⟨dst, op, ty, pos, af, gd⟩ := o
  dsimp only at ho
  subst ho
  subst hb
  generalize a.eval = e at *
  simp [go_sem, hs, ht, hT]
theorem Got.two (w : World) (x y : Nm) : Got w [(w.heap.size + 1, y), (w.heap.size, x)] ((w.alloc (.cells #[.int .i64 x.A, .int .i64 x.B, .int .i64 x.C, .int .i64 x.D, .int .i64 x.K] 23)).alloc (.cells #[.int .i64 y.A, .int .i64 y.B, .int .i64 y.C, .int .i64 y.D, .int .i64 y.K] 23)) := by
  have h := ((Got.none w).box x).box y
  rw [World.size_alloc] at h
  exact h
/-- What the library's and the program's variables hold, in the worlds behind w. -/
def Vars (w : World) : Prop := NamesAre w ∧ CutVar w ∧ Lib.TabIs Tryz.prog w "internal/strconv.uint64pow10" .u64 Lib.pow10Tab
theorem awake_below {w w' : World} (h : Vars w) (hb : Below w.heap.size w w') : Calls Tryz.prog 9 #[] w' (Gives (.bool true) w') :=
  awake_any w' (h.1.below hb) (h.2.1.below hb) (Lib.tabBelow_of_tabIs h.2.2 w' hb)

set_option maxHeartbeats 4000000 in
theorem RingLeast_any (x y : Nm) (w : World) (hv : Vars w) : Calls Tryz.prog 10 #[x.v, y.v] w (Gives (.bool true) w) := by
  have HA : Hid (∀ w', Below w.heap.size w w' → Calls Tryz.prog 9 #[] w' (Gives (.bool true) w')) := fun w' hb => awake_below hv hb
  have H1 : Hid (∀ w, Calls Tryz.prog 38 #[x.v] w (Gives (.tuple #[(if x.chk = 0 then x.least else nul).v, .int .i64 x.chk]) w)) := fun w => r_least x.A x.B x.C x.D x.K w
  have H2 : Hid (∀ w, Calls Tryz.prog 39 #[x.v, y.v] w (Gives (.tuple #[.bool (if chk2 x y = 0 then eq5 x.least y.least else false), .int .i64 (chk2 x y)]) w)) := fun w => r_same x y w
  have H3 : Hid (∀ w, Calls Tryz.prog 31 #[x.v] w (Gives (.tuple #[(if x.chk = 0 then x.least else nul).v, .int .i64 x.chk]) w)) := fun w => Least_any x.A x.B x.C x.D x.K w
  have H4 : Hid (∀ w, Calls Tryz.prog 40 #[x.v, y.v] w (Gives (.tuple #[.bool (if chk2 x y = 0 then eq5 x.least y.least else false), .int .i64 (chk2 x y)]) w)) := fun w => by
    have h := Same_any x.A x.B x.C x.D x.K y.A y.B y.C y.D y.K w
    rw [same_eq5] at h
    exact h
  have H5 : Hid (∀ w, Calls Tryz.prog 15 #[x.v] w (Gives (.int .i64 x.chk) w)) := fun w => check_any x.A x.B x.C x.D x.K w
  have H6 : Hid (∀ w, Calls Tryz.prog 41 #[x.v] w (Gives (.int .i64 x.chk) w)) := fun w => r_check x.A x.B x.C x.D x.K w
  have G0 := Lib.hid (Got.two w x y)
  clear hv
  generalize (if x.chk = 0 then x.least else nul) = r at *
  generalize (if chk2 x y = 0 then eq5 x.least y.least else false) = sb at *
  generalize chk2 x y = q2 at *
  generalize x.chk = q at *
  go_enter Tryz.func10, Tryz.ntmps10
  go_wp2_with fail
  refine (H1.out _).mono ?_
  rintro e u1 ⟨rfl, hb⟩
  have g1 := G0.out.call hb
  obtain ⟨y0, y1, y2, y3, y4⟩ := (g1.2 _ (.head _)).cell
  obtain ⟨x0, x1, x2, x3, x4⟩ := (g1.2 _ (.tail _ (.head _))).cell
  have hlt := (g1.2 _ (.head _)).lt
  dsimp only at x0 x1 x2 x3 x4 y0 y1 y2 y3 y4 hlt
  have hlt0 : w.heap.size < u1.heap.size := by omega
  have G1 := Lib.hid (g1.box r)
  clear g1 hb G0
  go_wp2_with fail
  refine (H2.out _).mono ?_
  rintro e u2 ⟨rfl, hb⟩
  have g2 := G1.out.call hb
  clear x0 x1 x2 x3 x4 y0 y1 y2 y3 y4 hlt hlt0 G1 hb
  obtain ⟨y0, y1, y2, y3, y4⟩ := (g2.2 _ (.tail _ (.head _))).cell
  obtain ⟨x0, x1, x2, x3, x4⟩ := (g2.2 _ (.tail _ (.tail _ (.head _)))).cell
  have hlt := (g2.2 _ (.tail _ (.head _))).lt
  dsimp only at x0 x1 x2 x3 x4 y0 y1 y2 y3 y4 hlt
  have hlt0 : w.heap.size < u2.heap.size := by omega
  have G2 := Lib.hid g2
  clear g2
  go_wp2_with fail
  refine (H3.out _).mono ?_
  rintro e u3 ⟨rfl, hb⟩
  have g3 := G2.out.call hb
  clear x0 x1 x2 x3 x4 y0 y1 y2 y3 y4 hlt hlt0 G2 hb
  obtain ⟨y0, y1, y2, y3, y4⟩ := (g3.2 _ (.tail _ (.head _))).cell
  obtain ⟨x0, x1, x2, x3, x4⟩ := (g3.2 _ (.tail _ (.tail _ (.head _)))).cell
  have hlt := (g3.2 _ (.tail _ (.head _))).lt
  dsimp only at x0 x1 x2 x3 x4 y0 y1 y2 y3 y4 hlt
  have hlt0 : w.heap.size < u3.heap.size := by omega
  have G3 := Lib.hid (g3.box r)
  clear g3
  go_wp2_with fail
  refine (H4.out _).mono ?_
  rintro e u4 ⟨rfl, hb⟩
  have G4 := Lib.hid (G3.out.call hb)
  clear x0 x1 x2 x3 x4 y0 y1 y2 y3 y4 hlt hlt0 G3 hb
  go_wp2_with fail
  refine region_fin (Got w _) 35 [x.v, .int .i64 q, x.v, .int .i64 q, .bool true, .bool true, .int .i64 q, .int .i64 q, .bool true, .bool true, .bool true, .int .i64 q2, .int .i64 q2, .bool true, .bool true, .bool true, r.v, r.v, .bool true, .bool true, .bool true, .bool sb, .bool sb, .bool true, .bool true, .bool true, .bool true, .bool true] 4 (.bool true) (by kernel_rfl) (by kernel_rfl) (by kernel_rfl) (by kernel_rfl) (G4.out.call (below_dN (Below.refl _ _) 1)) ?_ ?_
  · intro w' hC
    rename_i hK
    refine hK _ _ ?_
    refine wp_ret ?_
    exact bodyPost_ret (v := .bool true) (by kernel_rfl) rfl ⟨rfl, hC.1⟩
  have hq : (q == q) = true := by simp
  have hq2 : (q2 == q2) = true := by simp
  have hsb : (sb == sb) = true := by simp
  refine eachOp_cons (ok_load (by kernel_rfl) (by kernel_rfl) (fun _ hC => load_num (b := w.heap.size) (x := x) rfl (by kernel_rfl) (hC.2 _ (.tail _ (.tail _ (.tail _ (.head _))))))) ?_
  refine eachOp_cons (ok_call 15 #[x.v] (by kernel_rfl) (by kernel_rfl) (fun _ => by kernel_rfl) (fun w' hC => (H5.out w').mono fun _ _ h => ⟨h.1, hC.call h.2⟩)) ?_
  refine eachOp_cons (ok_load (by kernel_rfl) (by kernel_rfl) (fun _ hC => load_num (b := w.heap.size) (x := x) rfl (by kernel_rfl) (hC.2 _ (.tail _ (.tail _ (.tail _ (.head _))))))) ?_
  refine eachOp_cons (ok_call 41 #[x.v] (by kernel_rfl) (by kernel_rfl) (fun _ => by kernel_rfl) (fun w' hC => (H6.out w').mono fun _ _ h => ⟨h.1, hC.call h.2⟩)) ?_
  refine eachOp_cons (ok_val (by kernel_rfl) (by kernel_rfl) (fun _ => eql_int (p := q) (q := q) rfl (by kernel_rfl) (by kernel_rfl) (by kernel_rfl) hq)) ?_
  refine eachOp_cons (ok_val (by kernel_rfl) (by kernel_rfl) (fun _ => by kernel_rfl)) ?_
  refine eachOp_cons (ok_val (by kernel_rfl) (by kernel_rfl) (fun _ => by kernel_rfl)) ?_
  refine eachOp_cons (ok_val (by kernel_rfl) (by kernel_rfl) (fun _ => by kernel_rfl)) ?_
  refine eachOp_cons (ok_val (by kernel_rfl) (by kernel_rfl) (fun _ => eql_int (p := q) (q := q) rfl (by kernel_rfl) (by kernel_rfl) (by kernel_rfl) hq)) ?_
  refine eachOp_cons (ok_val (by kernel_rfl) (by kernel_rfl) (fun _ => by kernel_rfl)) ?_
  refine eachOp_cons (ok_val (by kernel_rfl) (by kernel_rfl) (fun _ => by kernel_rfl)) ?_
  refine eachOp_cons (ok_val (by kernel_rfl) (by kernel_rfl) (fun _ => by kernel_rfl)) ?_
  refine eachOp_cons (ok_val (by kernel_rfl) (by kernel_rfl) (fun _ => by kernel_rfl)) ?_
  refine eachOp_cons (ok_val (by kernel_rfl) (by kernel_rfl) (fun _ => eql_int (p := q2) (q := q2) rfl (by kernel_rfl) (by kernel_rfl) (by kernel_rfl) hq2)) ?_
  refine eachOp_cons (ok_val (by kernel_rfl) (by kernel_rfl) (fun _ => by kernel_rfl)) ?_
  refine eachOp_cons (ok_val (by kernel_rfl) (by kernel_rfl) (fun _ => by kernel_rfl)) ?_
  refine eachOp_cons (ok_load (by kernel_rfl) (by kernel_rfl) (fun _ hC => load_num (b := u3.heap.size) (x := r) rfl (by kernel_rfl) (hC.2 _ (.head _)))) ?_
  refine eachOp_cons (ok_load (by kernel_rfl) (by kernel_rfl) (fun _ hC => load_num (b := u1.heap.size) (x := r) rfl (by kernel_rfl) (hC.2 _ (.tail _ (.head _))))) ?_
  refine eachOp_cons (ok_val (by kernel_rfl) (by kernel_rfl) (fun _ => eql_num (x := r) (y := r) rfl (by kernel_rfl) (by kernel_rfl) ((eq5_iff r r).2 rfl))) ?_
  refine eachOp_cons (ok_val (by kernel_rfl) (by kernel_rfl) (fun _ => by kernel_rfl)) ?_
  refine eachOp_cons (ok_val (by kernel_rfl) (by kernel_rfl) (fun _ => by kernel_rfl)) ?_
  refine eachOp_cons (ok_val (by kernel_rfl) (by kernel_rfl) (fun _ => by kernel_rfl)) ?_
  refine eachOp_cons (ok_val (by kernel_rfl) (by kernel_rfl) (fun _ => by kernel_rfl)) ?_
  refine eachOp_cons (ok_val (by kernel_rfl) (by kernel_rfl) (fun _ => eql_bool (p := sb) (q := sb) rfl (by kernel_rfl) (by kernel_rfl) (by kernel_rfl) hsb)) ?_
  refine eachOp_cons (ok_val (by kernel_rfl) (by kernel_rfl) (fun _ => by kernel_rfl)) ?_
  refine eachOp_cons (ok_val (by kernel_rfl) (by kernel_rfl) (fun _ => by kernel_rfl)) ?_
  refine eachOp_cons (ok_call 9 #[] (by kernel_rfl) (by kernel_rfl) (fun _ => by kernel_rfl) (fun w' hC => (HA.out w' hC.1).mono fun _ _ h => ⟨h.1, hC.call h.2⟩)) ?_
  refine eachOp_cons (ok_val (by kernel_rfl) (by kernel_rfl) (fun _ => by kernel_rfl)) ?_
  refine eachOp_cons (ok_val (by kernel_rfl) (by kernel_rfl) (fun _ => by kernel_rfl)) ?_
  exact eachOp_nil
end Go.Proofs.YtcdmcndjbajhlaaGreatDoor
