
/- What RingOrdered asks of the ring. -/
import Derived.Test.YtohadcaapmnlaaaDoorJg
set_option linter.all false
set_option maxRecDepth 100000
namespace Go.Proofs.YtohadcaapmnlaaaDoor
open Go.RowKit

/-- The real number a + b r, over 64. -/
def Rr (a b : Int) : Nm := ⟨a, b, 0, -b, 12⟩
theorem Rr.real (a b : Int) : Rl (Rr a b) := ⟨rfl, rfl⟩
theorem Rr.fine {a b M : Int} (ha : -M ≤ a ∧ a ≤ M) (hb : -M ≤ b ∧ b ≤ M) : Fine (Rr a b) M 12 := by
  refine ⟨⟨ha, hb, ?_, ?_⟩, by show (0 : Int) ≤ 12; omega, by show (12 : Int) ≤ 12; omega⟩
  · show -M ≤ 0 ∧ 0 ≤ M; omega
  · show -M ≤ -b ∧ -b ≤ M; omega
theorem Rr.add (a b c d : Int) : addN (Rr a b) (Rr c d) = Rr (a + c) (b + d) := by
  have e : max (Rr a b).K (Rr c d).K = 12 := by show max (12 : Int) 12 = 12; omega
  have l : ∀ a b, liftN (Rr a b) 12 = Rr a b := fun a b => by unfold liftN; rw [if_pos (by show (12 : Int) ≤ 12; omega)]
  rw [addN_plus, e, l, l]
  apply Nm.ext5 <;> simp only [plusN, Rr] <;> omega
theorem Rr.sub (a b c d : Int) : subN (Rr a b) (Rr c d) = Rr (a - c) (b - d) := by
  have e : negN (Rr c d) = Rr (-c) (-d) := by apply Nm.ext5 <;> simp [negN, Rr]
  unfold subN
  rw [e, Rr.add]
  rfl
theorem Rr.inj {a b c d : Int} (h : (Rr a b).least = (Rr c d).least) : a = c ∧ b = d := by
  have h0 : ∀ a b, 0 ≤ (Rr a b).K := fun a b => by show (0 : Int) ≤ 12; omega
  obtain ⟨m, n, hmn⟩ := Sv.of_least (h0 a b) (h0 c d) h
  have hK := congrArg Nm.K hmn
  rw [upN_K, upN_K] at hK
  have e : m = n := by
    have : (12 : Int) + m = 12 + n := hK
    omega
  subst e
  have hi : ∀ n {x y : Nm}, upN n x = upN n y → x = y := fun n => by
    induction n with
    | zero => exact fun h => h
    | succ n ih => intro x y h; rw [upN_one, upN_one] at h; exact ih (by rw [← up_half (upN n x), h, up_half])
  have h1 := hi m hmn
  exact ⟨congrArg Nm.A h1, congrArg Nm.B h1⟩
/-- A norm is real, and not too great. -/
theorem norm_Rr {v : Nm} (hv : Fine v 40 6) : ∃ a b : Int, (-409600 ≤ a ∧ a ≤ 409600) ∧ (-409600 ≤ b ∧ b ≤ 409600) ∧ Sv (normN v) (Rr a b) := by
  have fn : Fine (normN v) 6400 12 := hv.mul hv.conj _ _ rfl rfl
  have hl := hv.lo
  have hh := hv.hi
  have hN := norm_form v
  obtain ⟨j, hj⟩ : ∃ j : Nat, (j : Int) = 6 - v.K := ⟨(6 - v.K).toNat, by omega⟩
  have hp := pow2_le (j := j) (n := 6) (by omega)
  have h6 : (2 : Int) ^ 6 = 64 := by decide
  have hp0 := pow2_pos j
  have bd : ∀ c : Int, -6400 ≤ c ∧ c ≤ 6400 → -409600 ≤ c * 2 ^ j ∧ c * 2 ^ j ≤ 409600 := fun c hc => by
    have := prod_bd (a := c) (b := 2 ^ j) (M := 6400) (N := 64) hc ⟨by omega, by omega⟩
    omega
  refine ⟨nP v * 2 ^ j, nQ v * 2 ^ j, bd _ ?_, bd _ ?_, ⟨2 * j, 0, ?_⟩⟩
  · have := fn.le.1; rw [hN] at this; exact this
  · have := fn.le.2.1; rw [hN] at this; exact this
  · rw [upN_even, hN]
    apply Nm.ext5 <;> simp only [shlN, upN, Rr] <;> grind
/-- A difference of norms, in least form. -/
def Dn (x : Nm) : Prop := ∃ a b : Int, (-819200 ≤ a ∧ a ≤ 819200) ∧ (-819200 ≤ b ∧ b ≤ 819200) ∧ x = (Rr a b).least
theorem round_norm {u : Nm} (hu : Fine u 40 6) : Tells 23 #[u.v] (two (normN u).least) := by
  have f1 : Fine (normN u) 6400 12 := hu.mul hu.conj _ _ rfl rfl
  exact norm_tells hu.okay f1.okay (Sv.refl _)
theorem round_tells {u v : Nm} (hu : Fine u 40 6) (hv : Fine v 40 6) : ∃ d, Tells 19 #[(normN u).least.v, (normN v).least.v] (two d) ∧ Dn d := by
  obtain ⟨a1, b1, ha1, hb1, s1⟩ := norm_Rr hu
  obtain ⟨a2, b2, ha2, hb2, s2⟩ := norm_Rr hv
  have f1 : Fine (normN u) 6400 12 := hu.mul hu.conj _ _ rfl rfl
  have f2 : Fine (normN v) 6400 12 := hv.mul hv.conj _ _ rfl rfl
  have fd : Fine (Rr (a1 - a2) (b1 - b2)) 819200 12 := Rr.fine (by omega) (by omega)
  exact ⟨(Rr (a1 - a2) (b1 - b2)).least, sub_tells f1.okay.least f2.okay.least fd.okay ((((sv_least f1.lo).trans s1).sub ((sv_least f2.lo).trans s2)).trans (Sv.of_eq (Rr.sub _ _ _ _))), ⟨a1 - a2, b1 - b2, by omega, by omega, rfl⟩⟩
theorem less_Rr {a b c d M : Int} (ha : -M ≤ a ∧ a ≤ M) (hb : -M ≤ b ∧ b ≤ M) (hc : -M ≤ c ∧ c ≤ M) (hd : -M ≤ d ∧ d ≤ M) (hM : M ≤ 536870912) :
    Tells 25 #[(Rr a b).least.v, (Rr c d).least.v] (.tuple #[.bool (below0N (a - c) (b - d)), .int .i64 0]) := by
  have fx := Rr.fine ha hb
  have fy := Rr.fine hc hd
  have fz : Fine (Rr (a - c) (b - d)) (M + M) 12 := Rr.fine (by omega) (by omega)
  have hM0 : 0 ≤ M := by omega
  have ox : Okay (Rr a b) := fx.mono (by omega) (by omega)
  have oy : Okay (Rr c d) := fy.mono (by omega) (by omega)
  have oz : Okay (Rr (a - c) (b - d)) := fz.mono (by omega) (by omega)
  exact less_tells ox.least oy.least oz (Rl.real.2 ((Rr.real a b).least fx.lo).1) (Rl.real.2 ((Rr.real c d).least fy.lo).1) (((sv_least fx.lo).sub (sv_least fy.lo)).trans (Sv.of_eq (Rr.sub _ _ _ _))) (Rr.real _ _)
/-- What RingOrdered asks of the ring, of three such numbers. -/
structure OrderT (x y z p q : Nm) (s1 s2 t s3 s4 : Bool) : Prop where
  h1 : Tells 25 #[x.v, y.v] (.tuple #[.bool s1, .int .i64 0])
  h2 : Tells 25 #[y.v, x.v] (.tuple #[.bool s2, .int .i64 0])
  h3 : Tells 29 #[x.v, y.v] (.tuple #[.bool t, .int .i64 0])
  h4 : Tells 16 #[x.v, z.v] (two p)
  h5 : Tells 16 #[y.v, z.v] (two q)
  h6 : Tells 25 #[p.v, q.v] (.tuple #[.bool s1, .int .i64 0])
  h7 : Tells 25 #[y.v, z.v] (.tuple #[.bool s3, .int .i64 0])
  h8 : Tells 25 #[x.v, z.v] (.tuple #[.bool s4, .int .i64 0])
  one : (s1 = false ∧ s2 = false ∧ t = true) ∨ (s1 = true ∧ s2 = false ∧ t = false) ∨ (s1 = false ∧ s2 = true ∧ t = false)
  far : s1 = true → s3 = true → s4 = true
theorem order_tells {x y z : Nm} (hx : Dn x) (hy : Dn y) (hz : Dn z) : ∃ p q s1 s2 t s3 s4, OrderT x y z p q s1 s2 t s3 s4 := by
  obtain ⟨a, b, ha, hb, rfl⟩ := hx
  obtain ⟨c, d, hc, hd, rfl⟩ := hy
  obtain ⟨e, f, he, hf, rfl⟩ := hz
  have fx := Rr.fine ha hb
  have fy := Rr.fine hc hd
  have fz := Rr.fine he hf
  have fp : Fine (Rr (a + e) (b + f)) 1638400 12 := Rr.fine (by omega) (by omega)
  have fq : Fine (Rr (c + e) (d + f)) 1638400 12 := Rr.fine (by omega) (by omega)
  refine ⟨(Rr (a + e) (b + f)).least, (Rr (c + e) (d + f)).least, below0N (a - c) (b - d), below0N (c - a) (d - b), eq5 (Rr a b).least (Rr c d).least, below0N (c - e) (d - f), below0N (a - e) (b - f), ?_⟩
  exact {
    h1 := less_Rr ha hb hc hd (by omega)
    h2 := less_Rr hc hd ha hb (by omega)
    h3 := by
      have h := same_tells fx.okay.least fy.okay.least
      rw [least_twice fx.lo, least_twice fy.lo] at h
      exact h
    h4 := add_tells fx.okay.least fz.okay.least fp.okay (((sv_least fx.lo).add (sv_least fz.lo)).trans (Sv.of_eq (Rr.add _ _ _ _)))
    h5 := add_tells fy.okay.least fz.okay.least fq.okay (((sv_least fy.lo).add (sv_least fz.lo)).trans (Sv.of_eq (Rr.add _ _ _ _)))
    h6 := by
      have h := less_Rr (a := a + e) (b := b + f) (c := c + e) (d := d + f) (M := 1638400) (by omega) (by omega) (by omega) (by omega) (by omega)
      rw [show a + e - (c + e) = a - c by omega, show b + f - (d + f) = b - d by omega] at h
      exact h
    h7 := less_Rr hc hd he hf (by omega)
    h8 := less_Rr ha hb he hf (by omega)
    one := by
      by_cases h : a - c = 0 ∧ b - d = 0
      · left
        have e1 : a = c := by omega
        have e2 : b = d := by omega
        subst e1 e2
        rw [Int.sub_self, Int.sub_self]
        exact ⟨by decide, by decide, (eq5_iff _ _).2 rfl⟩
      · right
        have hn := below0_neg h
        rw [show -(a - c) = c - a by omega, show -(b - d) = d - b by omega] at hn
        have ht : eq5 (Rr a b).least (Rr c d).least = false := by
          cases hq : eq5 (Rr a b).least (Rr c d).least with
          | false => rfl
          | true =>
            have := Rr.inj ((eq5_iff _ _).1 hq)
            exact absurd (show a - c = 0 ∧ b - d = 0 by omega) h
        rw [hn, ht]
        cases below0N (a - c) (b - d)
        · exact .inr ⟨rfl, rfl, rfl⟩
        · exact .inl ⟨rfl, rfl, rfl⟩
    far := fun h1 h3 => by
      have h := below0_add (a := a - c) (b := b - d) (c := c - e) (d := d - f) (by omega) (by omega) h1 h3
      rw [show a - c + (c - e) = a - e by omega, show b - d + (d - f) = b - f by omega] at h
      exact h }

/-- Block b holds three numbers. -/
def Arr3 (W : World) (b : Nat) (X Y Z : Nm) : Prop := W.heap[b]? = some (.cells #[.int .i64 X.A, .int .i64 X.B, .int .i64 X.C, .int .i64 X.D, .int .i64 X.K, .int .i64 Y.A, .int .i64 Y.B, .int .i64 Y.C, .int .i64 Y.D, .int .i64 Y.K, .int .i64 Z.A, .int .i64 Z.B, .int .i64 Z.C, .int .i64 Z.D, .int .i64 Z.K] 45 (0, 0))
theorem Arr3.lt {W : World} {b : Nat} {X Y Z : Nm} (h : Arr3 W b X Y Z) : b < W.heap.size := by
  rcases Nat.lt_or_ge b W.heap.size with h' | h'
  · exact h'
  · simp [Arr3, Array.getElem?_eq_none h'] at h
theorem Arr3.c0 {W : World} {b : Nat} {X Y Z : Nm} (h : Arr3 W b X Y Z) : (W.cell? ⟨b, 0, none⟩ = some (.int .i64 X.A) ∧ W.cell? ⟨b, 1, none⟩ = some (.int .i64 X.B) ∧ W.cell? ⟨b, 2, none⟩ = some (.int .i64 X.C) ∧ W.cell? ⟨b, 3, none⟩ = some (.int .i64 X.D) ∧ W.cell? ⟨b, 4, none⟩ = some (.int .i64 X.K)) ∧
    W.frozen? ⟨b, 0, none⟩ = false ∧ W.frozen? ⟨b, 1, none⟩ = false ∧ W.frozen? ⟨b, 2, none⟩ = false ∧ W.frozen? ⟨b, 3, none⟩ = false ∧ W.frozen? ⟨b, 4, none⟩ = false := by
  unfold Arr3 at h
  simp [World.cell?, World.frozen?, h]
theorem Arr3.c1 {W : World} {b : Nat} {X Y Z : Nm} (h : Arr3 W b X Y Z) : (W.cell? ⟨b, 5, none⟩ = some (.int .i64 Y.A) ∧ W.cell? ⟨b, 6, none⟩ = some (.int .i64 Y.B) ∧ W.cell? ⟨b, 7, none⟩ = some (.int .i64 Y.C) ∧ W.cell? ⟨b, 8, none⟩ = some (.int .i64 Y.D) ∧ W.cell? ⟨b, 9, none⟩ = some (.int .i64 Y.K)) ∧
    W.frozen? ⟨b, 5, none⟩ = false ∧ W.frozen? ⟨b, 6, none⟩ = false ∧ W.frozen? ⟨b, 7, none⟩ = false ∧ W.frozen? ⟨b, 8, none⟩ = false ∧ W.frozen? ⟨b, 9, none⟩ = false := by
  unfold Arr3 at h
  simp [World.cell?, World.frozen?, h]
theorem Arr3.c2 {W : World} {b : Nat} {X Y Z : Nm} (h : Arr3 W b X Y Z) : (W.cell? ⟨b, 10, none⟩ = some (.int .i64 Z.A) ∧ W.cell? ⟨b, 11, none⟩ = some (.int .i64 Z.B) ∧ W.cell? ⟨b, 12, none⟩ = some (.int .i64 Z.C) ∧ W.cell? ⟨b, 13, none⟩ = some (.int .i64 Z.D) ∧ W.cell? ⟨b, 14, none⟩ = some (.int .i64 Z.K)) ∧
    W.frozen? ⟨b, 10, none⟩ = false ∧ W.frozen? ⟨b, 11, none⟩ = false ∧ W.frozen? ⟨b, 12, none⟩ = false ∧ W.frozen? ⟨b, 13, none⟩ = false ∧ W.frozen? ⟨b, 14, none⟩ = false := by
  unfold Arr3 at h
  simp [World.cell?, World.frozen?, h]
theorem Arr3.put0 {W : World} {b : Nat} {X Y Z : Nm} (h : Arr3 W b X Y Z) (d : Nm) : Arr3 (((((W.setCell ⟨b, 0, none⟩ (.int .i64 d.A)).setCell ⟨b, 1, none⟩ (.int .i64 d.B)).setCell ⟨b, 2, none⟩ (.int .i64 d.C)).setCell ⟨b, 3, none⟩ (.int .i64 d.D)).setCell ⟨b, 4, none⟩ (.int .i64 d.K)) b d Y Z := by
  have h2 := heap_set (o := 4) (v := .int .i64 d.K) (heap_set (o := 3) (v := .int .i64 d.D) (heap_set (o := 2) (v := .int .i64 d.C) (heap_set (o := 1) (v := .int .i64 d.B) (heap_set (o := 0) (v := .int .i64 d.A) h))))
  simpa [Arr3] using h2
theorem Arr3.put1 {W : World} {b : Nat} {X Y Z : Nm} (h : Arr3 W b X Y Z) (d : Nm) : Arr3 (((((W.setCell ⟨b, 5, none⟩ (.int .i64 d.A)).setCell ⟨b, 6, none⟩ (.int .i64 d.B)).setCell ⟨b, 7, none⟩ (.int .i64 d.C)).setCell ⟨b, 8, none⟩ (.int .i64 d.D)).setCell ⟨b, 9, none⟩ (.int .i64 d.K)) b X d Z := by
  have h2 := heap_set (o := 9) (v := .int .i64 d.K) (heap_set (o := 8) (v := .int .i64 d.D) (heap_set (o := 7) (v := .int .i64 d.C) (heap_set (o := 6) (v := .int .i64 d.B) (heap_set (o := 5) (v := .int .i64 d.A) h))))
  simpa [Arr3] using h2
theorem Arr3.put2 {W : World} {b : Nat} {X Y Z : Nm} (h : Arr3 W b X Y Z) (d : Nm) : Arr3 (((((W.setCell ⟨b, 10, none⟩ (.int .i64 d.A)).setCell ⟨b, 11, none⟩ (.int .i64 d.B)).setCell ⟨b, 12, none⟩ (.int .i64 d.C)).setCell ⟨b, 13, none⟩ (.int .i64 d.D)).setCell ⟨b, 14, none⟩ (.int .i64 d.K)) b X Y d := by
  have h2 := heap_set (o := 14) (v := .int .i64 d.K) (heap_set (o := 13) (v := .int .i64 d.D) (heap_set (o := 12) (v := .int .i64 d.C) (heap_set (o := 11) (v := .int .i64 d.B) (heap_set (o := 10) (v := .int .i64 d.A) h))))
  simpa [Arr3] using h2
/-- A store, three numbers in a row, and what is got beside them. -/
structure Las (w : World) (b L : Nat) (m : Int) (bl : Nat) (X Y Z : Nm) (l : List (Nat × Nm)) (W : World) : Prop where
  gos : Gos w b L m l W
  arr : Arr3 W bl X Y Z
  lb : L ≤ bl
theorem Las.call {w W W' : World} {b L bl : Nat} {m : Int} {X Y Z : Nm} {l : List (Nat × Nm)} (h : Las w b L m bl X Y Z l W) (hb : Below W.heap.size W W') : Las w b L m bl X Y Z l W' :=
  ⟨h.gos.call hb, by unfold Arr3; rw [hb.block bl h.arr.lt]; exact h.arr, h.lb⟩
theorem Las.draw {w W W' : World} {b L bl : Nat} {m m' : Int} {X Y Z : Nm} {l : List (Nat × Nm)} (h : Las w b L m bl X Y Z l W) (hs : StoreAt W' b L m') (hb : Beside b W W') : Las w b L m' bl X Y Z l W' :=
  ⟨h.gos.draw hs hb, by unfold Arr3; rw [hb.block bl h.arr.lt (by have := h.lb; have := h.gos.sto.1.1; omega)]; exact h.arr, h.lb⟩
theorem Las.new {w W : World} {b L bl : Nat} {m : Int} {X Y Z : Nm} {l : List (Nat × Nm)} (h : Las w b L m bl X Y Z l W) (x : Nm) : Las w b L m bl X Y Z ((W.heap.size, x) :: l) (W.alloc (.cells #[.int .i64 x.A, .int .i64 x.B, .int .i64 x.C, .int .i64 x.D, .int .i64 x.K] 23)) :=
  ⟨h.gos.new x, (h.call ((Below.refl W.heap.size W).alloc (Nat.le_refl _) _)).arr, h.lb⟩
theorem Las.drop {w W : World} {b L bl : Nat} {m : Int} {X Y Z : Nm} {l : List (Nat × Nm)} (h : Las w b L m bl X Y Z l W) {m' : Int} (hm : m ≤ m') : Las w b L m' bl X Y Z [] W :=
  ⟨⟨h.gos.bel, by simp, h.gos.sto.mono hm, h.gos.ge⟩, h.arr, h.lb⟩
theorem gos_put {w W : World} {b L bl : Nat} {m : Int} {l : List (Nat × Nm)} (h : Gos w b L m l W) (hl : L ≤ bl) (v0 v1 v2 v3 v4 : Value) (o0 o1 o2 o3 o4 : Nat) : Gos w b L m [] (((((W.setCell ⟨bl, o0, none⟩ v0).setCell ⟨bl, o1, none⟩ v1).setCell ⟨bl, o2, none⟩ v2).setCell ⟨bl, o3, none⟩ v3).setCell ⟨bl, o4, none⟩ v4) :=
  ⟨((((h.bel.setCell (Nat.le_trans h.ge.2 hl) _).setCell (Nat.le_trans h.ge.2 hl) _).setCell (Nat.le_trans h.ge.2 hl) _).setCell (Nat.le_trans h.ge.2 hl) _).setCell (Nat.le_trans h.ge.2 hl) _, by simp,
    ((((h.sto.other hl _ _).other hl _ _).other hl _ _).other hl _ _).other hl _ _, h.ge⟩
theorem Las.put0 {w W : World} {b L bl : Nat} {m : Int} {X Y Z : Nm} {l : List (Nat × Nm)} (h : Las w b L m bl X Y Z l W) (d : Nm) : Las w b L m bl d Y Z [] (((((W.setCell ⟨bl, 0, none⟩ (.int .i64 d.A)).setCell ⟨bl, 1, none⟩ (.int .i64 d.B)).setCell ⟨bl, 2, none⟩ (.int .i64 d.C)).setCell ⟨bl, 3, none⟩ (.int .i64 d.D)).setCell ⟨bl, 4, none⟩ (.int .i64 d.K)) :=
  ⟨gos_put h.gos h.lb _ _ _ _ _ _ _ _ _ _, h.arr.put0 d, h.lb⟩
theorem Las.put1 {w W : World} {b L bl : Nat} {m : Int} {X Y Z : Nm} {l : List (Nat × Nm)} (h : Las w b L m bl X Y Z l W) (d : Nm) : Las w b L m bl X d Z [] (((((W.setCell ⟨bl, 5, none⟩ (.int .i64 d.A)).setCell ⟨bl, 6, none⟩ (.int .i64 d.B)).setCell ⟨bl, 7, none⟩ (.int .i64 d.C)).setCell ⟨bl, 8, none⟩ (.int .i64 d.D)).setCell ⟨bl, 9, none⟩ (.int .i64 d.K)) :=
  ⟨gos_put h.gos h.lb _ _ _ _ _ _ _ _ _ _, h.arr.put1 d, h.lb⟩
theorem Las.put2 {w W : World} {b L bl : Nat} {m : Int} {X Y Z : Nm} {l : List (Nat × Nm)} (h : Las w b L m bl X Y Z l W) (d : Nm) : Las w b L m bl X Y d [] (((((W.setCell ⟨bl, 10, none⟩ (.int .i64 d.A)).setCell ⟨bl, 11, none⟩ (.int .i64 d.B)).setCell ⟨bl, 12, none⟩ (.int .i64 d.C)).setCell ⟨bl, 13, none⟩ (.int .i64 d.D)).setCell ⟨bl, 14, none⟩ (.int .i64 d.K)) :=
  ⟨gos_put h.gos h.lb _ _ _ _ _ _ _ _ _ _, h.arr.put2 d, h.lb⟩
/-- Behind k rounds. -/
structure Lst (w : World) (b L bl k : Nat) (X Y Z : Nm) (W : World) : Prop where
  las : Las w b L (11 * k) bl X Y Z [] W
  d0 : 1 ≤ k → Dn X
  d1 : 2 ≤ k → Dn Y
  d2 : 3 ≤ k → Dn Z
/-- Five cells. -/
def Cells5 (W : World) (b : Nat) (x : Nm) : Prop := W.cell? ⟨b, 0, none⟩ = some (.int .i64 x.A) ∧ W.cell? ⟨b, 1, none⟩ = some (.int .i64 x.B) ∧ W.cell? ⟨b, 2, none⟩ = some (.int .i64 x.C) ∧ W.cell? ⟨b, 3, none⟩ = some (.int .i64 x.D) ∧ W.cell? ⟨b, 4, none⟩ = some (.int .i64 x.K)
/-- Three numbers were put into new variables. -/
def P3 (X Y Z : Nm) (V : World) (p q r : Value) (wx : World) : Prop := ∃ bp bq br, p = .pointer (some ⟨bp, 0, none⟩) ∧ q = .pointer (some ⟨bq, 0, none⟩) ∧ r = .pointer (some ⟨br, 0, none⟩) ∧ (Cells5 wx bp X ∧ Cells5 wx bq Y ∧ Cells5 wx br Z) ∧ (bp < wx.heap.size ∧ bq < wx.heap.size ∧ br < wx.heap.size) ∧ (V.heap.size ≤ bp ∧ V.heap.size ≤ bq ∧ V.heap.size ≤ br) ∧ Below V.heap.size V wx
theorem Gos.three {w V wx : World} {b L : Nat} {m : Int} {l : List (Nat × Nm)} {X Y Z : Nm} {p q r : Value} (h : Gos w b L m l V) (hp : P3 X Y Z V p q r wx) : ∃ bp bq br, p = .pointer (some ⟨bp, 0, none⟩) ∧ q = .pointer (some ⟨bq, 0, none⟩) ∧ r = .pointer (some ⟨br, 0, none⟩) ∧ Gos w b L m ((br, Z) :: (bq, Y) :: (bp, X) :: l) wx := by
  obtain ⟨bp, bq, br, e1, e2, e3, ⟨c1, c2, c3⟩, ⟨l1, l2, l3⟩, ⟨g1, g2, g3⟩, hb⟩ := hp
  have hL := h.sto.1.2
  exact ⟨bp, bq, br, e1, e2, e3, (((h.call hb).add ⟨c1, l1⟩ (Nat.le_trans hL g1)).add ⟨c2, l2⟩ (Nat.le_trans hL g2)).add ⟨c3, l3⟩ (Nat.le_trans hL g3)⟩
end Go.Proofs.YtohadcaapmnlaaaDoor
