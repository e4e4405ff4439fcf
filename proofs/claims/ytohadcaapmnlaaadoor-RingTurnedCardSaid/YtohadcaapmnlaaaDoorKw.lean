
/- What RingTurned asks of the ring. -/
import Derived.Test.YtohadcaapmnlaaaDoorJg
import Derived.LoopN
set_option linter.all false
set_option maxRecDepth 100000
namespace Go.Proofs.YtohadcaapmnlaaaDoor
open Go.RowKit

theorem cells_new (w : World) (cs : Array Value) (T : TypeId) (i : Nat) (v : Value) (h : cs[i]? = some v) : (w.alloc (.cells cs T)).cell? ⟨w.heap.size, i, none⟩ = some v := by
  unfold World.cell?
  dsimp only
  rw [heap_alloc_new]
  exact h
/-- What is got, beside cells that are kept. -/
def Goc (w : World) (l : List (Nat × Nm)) (F : List (Nat × Nat × Value)) (W : World) : Prop := Got w l W ∧ ∀ f ∈ F, W.cell? ⟨f.1, f.2.1, none⟩ = some f.2.2 ∧ f.1 < W.heap.size
theorem Goc.call {w W W' : World} {l : List (Nat × Nm)} {F : List (Nat × Nat × Value)} (h : Goc w l F W) (hb : Below W.heap.size W W') : Goc w l F W' :=
  ⟨h.1.call hb, fun f hf => ⟨((bcell hb).1 _ _ (h.2 f hf).2).trans (h.2 f hf).1, Nat.lt_of_lt_of_le (h.2 f hf).2 hb.size⟩⟩
theorem Goc.box {w W : World} {l : List (Nat × Nm)} {F : List (Nat × Nat × Value)} (h : Goc w l F W) (x : Nm) : Goc w ((W.heap.size, x) :: l) F (W.alloc (.cells #[.int .i64 x.A, .int .i64 x.B, .int .i64 x.C, .int .i64 x.D, .int .i64 x.K] 23)) :=
  ⟨h.1.box x, fun f hf => ⟨((bcell ((Below.refl W.heap.size W).alloc (Nat.le_refl _) _)).1 _ _ (h.2 f hf).2).trans (h.2 f hf).1, by have := (h.2 f hf).2; simp; omega⟩⟩
theorem Goc.two {w W : World} {l : List (Nat × Nm)} {F : List (Nat × Nat × Value)} (h : Goc w l F W) (f g : Value) (T : TypeId) : Goc w l ((W.heap.size, 0, f) :: (W.heap.size, 1, g) :: F) (W.alloc (.cells #[f, g] T)) := by
  have hn := heap_alloc_new W (.cells #[f, g] T)
  refine ⟨h.1.al _, fun q hq => ?_⟩
  rcases List.mem_cons.1 hq with rfl | hq
  · exact ⟨cells_new _ _ _ _ _ rfl, by simp⟩
  · rcases List.mem_cons.1 hq with rfl | hq
    · exact ⟨cells_new _ _ _ _ _ rfl, by simp⟩
    · exact ⟨((bcell ((Below.refl W.heap.size W).alloc (Nat.le_refl _) _)).1 _ _ (h.2 q hq).2).trans (h.2 q hq).1, by have := (h.2 q hq).2; simp; omega⟩
theorem Goc.three {w W : World} {l : List (Nat × Nm)} {F : List (Nat × Nat × Value)} (h : Goc w l F W) (f g k : Value) (T : TypeId) : Goc w l ((W.heap.size, 0, f) :: (W.heap.size, 1, g) :: (W.heap.size, 2, k) :: F) (W.alloc (.cells #[f, g, k] T)) := by
  have hn := heap_alloc_new W (.cells #[f, g, k] T)
  refine ⟨h.1.al _, fun q hq => ?_⟩
  rcases List.mem_cons.1 hq with rfl | hq
  · exact ⟨cells_new _ _ _ _ _ rfl, by simp⟩
  · rcases List.mem_cons.1 hq with rfl | hq
    · exact ⟨cells_new _ _ _ _ _ rfl, by simp⟩
    · rcases List.mem_cons.1 hq with rfl | hq
      · exact ⟨cells_new _ _ _ _ _ rfl, by simp⟩
      · exact ⟨((bcell ((Below.refl W.heap.size W).alloc (Nat.le_refl _) _)).1 _ _ (h.2 q hq).2).trans (h.2 q hq).1, by have := (h.2 q hq).2; simp; omega⟩

/-- What RingTurned asks of the ring, of one way to turn. -/
structure TurnT (f : FuncId) (x y a b lx ca cm cs da dm ds : Nm) : Prop where
  h1 : Tells f #[x.v] (two a)
  h2 : Tells f #[y.v] (two b)
  h3 : Tells f #[a.v] (two lx)
  h4 : Tells 20 #[x.v] (two lx)
  a1 : Tells 16 #[x.v, y.v] (two ca)
  a2 : Tells f #[ca.v] (two da)
  a3 : Tells 16 #[a.v, b.v] (two da)
  m1 : Tells 17 #[x.v, y.v] (two cm)
  m2 : Tells f #[cm.v] (two dm)
  m3 : Tells 17 #[a.v, b.v] (two dm)
  s1 : Tells 19 #[x.v, y.v] (two cs)
  s2 : Tells f #[cs.v] (two ds)
  s3 : Tells 19 #[a.v, b.v] (two ds)
theorem turn_tells (f : FuncId) (t : Nm → Nm) (hf : ∀ {x z : Nm}, Okay x → Okay z → Sv (t x) z → Tells f #[x.v] (two z.least)) (hFine : ∀ {x : Nm} {M k : Int}, Fine x M k → Fine (t x) M k) (hSv : ∀ {x y : Nm}, Sv x y → Sv (t x) (t y))
    (hadd : ∀ x y, t (addN x y) = addN (t x) (t y)) (hmul : ∀ x y, t (mulN x y) = mulN (t x) (t y)) (hneg : ∀ x, t (negN x) = negN (t x)) (htt : ∀ x, t (t x) = x) {x y : Nm} (hx : Fine x 60 8) (hy : Fine y 60 8) :
    ∃ a b lx ca cm cs da dm ds, TurnT f x y a b lx ca cm cs da dm ds := by
  have fa := hFine hx
  have fb := hFine hy
  have fs : Fine (addN x y) 30720 8 := hx.add hy 8 rfl (by omega) (by omega) _ rfl
  have fm : Fine (mulN x y) 14400 16 := hx.mul hy _ _ rfl rfl
  have fd : Fine (subN x y) 30720 8 := hx.sub hy 8 rfl (by omega) (by omega) _ rfl
  have hsub : ∀ x y, t (subN x y) = subN (t x) (t y) := fun x y => by unfold subN; rw [hadd, hneg]
  exact ⟨(t x).least, (t y).least, x.least, (addN x y).least, (mulN x y).least, (subN x y).least, (t (addN x y)).least, (t (mulN x y)).least, (t (subN x y)).least, {
    h1 := hf hx.okay fa.okay (Sv.refl _)
    h2 := hf hy.okay fb.okay (Sv.refl _)
    h3 := hf fa.okay.least hx.okay ((hSv (sv_least fa.lo)).trans (Sv.of_eq (htt x)))
    h4 := least_tells hx.okay
    a1 := add_tells hx.okay hy.okay fs.okay (Sv.refl _)
    a2 := hf fs.okay.least (hFine fs).okay (hSv (sv_least fs.lo))
    a3 := add_tells fa.okay.least fb.okay.least (hFine fs).okay (((sv_least fa.lo).add (sv_least fb.lo)).trans (Sv.of_eq (hadd x y).symm))
    m1 := mul_tells hx.okay hy.okay fm.okay (Sv.refl _)
    m2 := hf fm.okay.least (hFine fm).okay (hSv (sv_least fm.lo))
    m3 := mul_tells fa.okay.least fb.okay.least (hFine fm).okay (((sv_least fa.lo).mul (sv_least fb.lo)).trans (Sv.of_eq (hmul x y).symm))
    s1 := sub_tells hx.okay hy.okay fd.okay (Sv.refl _)
    s2 := hf fd.okay.least (hFine fd).okay (hSv (sv_least fd.lo))
    s3 := sub_tells fa.okay.least fb.okay.least (hFine fd).okay (((sv_least fa.lo).sub (sv_least fb.lo)).trans (Sv.of_eq (hsub x y).symm)) }⟩
theorem conj_turns {x y : Nm} (hx : Fine x 60 8) (hy : Fine y 60 8) : ∃ a b lx ca cm cs da dm ds, TurnT 21 x y a b lx ca cm cs da dm ds :=
  turn_tells _ conjN (fun h1 h2 h3 => conj_tells h1 h2 h3) (fun h => h.conj) (fun h => h.conj) conjN_addN conjN_mulN conjN_negN conjN_conjN hx hy
theorem dot_turns {x y : Nm} (hx : Fine x 60 8) (hy : Fine y 60 8) : ∃ a b lx ca cm cs da dm ds, TurnT 22 x y a b lx ca cm cs da dm ds :=
  turn_tells _ dotN (fun h1 h2 h3 => dot_tells h1 h2 h3) (fun h => h.dot) (fun h => h.dot) dotN_addN dotN_mulN dotN_negN dotN_dotN hx hy
/-- What RingTurned asks of both ways together. -/
structure BothT (x a c e : Nm) : Prop where
  h1 : Tells 21 #[x.v] (two a)
  h2 : Tells 22 #[a.v] (two e)
  h3 : Tells 22 #[x.v] (two c)
  h4 : Tells 21 #[c.v] (two e)
theorem both_turns {x : Nm} (hx : Fine x 60 8) : ∃ a c e, BothT x a c e :=
  ⟨(conjN x).least, (dotN x).least, (dotN (conjN x)).least, {
    h1 := conj_tells hx.okay hx.conj.okay (Sv.refl _)
    h2 := dot_tells hx.conj.okay.least hx.conj.dot.okay (sv_least hx.conj.lo).dot
    h3 := dot_tells hx.okay hx.dot.okay (Sv.refl _)
    h4 := conj_tells hx.dot.okay.least hx.conj.dot.okay ((sv_least hx.dot.lo).conj.trans (Sv.of_eq (dotN_conjN x).symm)) }⟩
end Go.Proofs.YtohadcaapmnlaaaDoor
