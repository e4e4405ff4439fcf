
/- Rows of bits: sums of two, with what they are made of. -/
import Derived.Test.YtpnancidgobehaaDoorZa
import Derived.Deep.RegionHeld3
import Derived.Deep.CutRange
set_option linter.all false
set_option maxRecDepth 100000
namespace Go.Proofs.YtpnancidgobehaaDoor
open Go.RowKit

theorem undrawn {w w' : World} (h : Below w.drew.heap.size w.drew w') : Below w.heap.size w w' := ⟨h.os, h.tape, h.output, h.size, h.block⟩
def Sm.v (a : Sm) : Value := .agg #[.int .i64 (a.row : Int), .int .i64 (a.of : Int)]
/-- A row with what it is made of, in a block of its own. -/
def SBox (w : World) (b : Nat) (x : Sm) : Prop := w.heap[b]? = some (.cells #[.int .i64 (x.row : Int), .int .i64 (x.of : Int)] 65 (0, 0))
theorem SBox.new (w : World) (x : Sm) : SBox (w.alloc (.cells #[.int .i64 (x.row : Int), .int .i64 (x.of : Int)] 65)) w.heap.size x := heap_alloc_new w _
theorem SBox.lt {w : World} {b : Nat} {x : Sm} (h : SBox w b x) : b < w.heap.size := (Array.getElem?_eq_some_iff.1 h).1
theorem SBox.al {w : World} {b : Nat} {x : Sm} (h : SBox w b x) (o : Obj) : SBox (w.alloc o) b x := (Below.heap_alloc w o b h.lt).trans h
theorem SBox.cell {w : World} {b : Nat} {x : Sm} (h : SBox w b x) : w.cell? ⟨b, 0, none⟩ = some (.int .i64 (x.row : Int)) ∧ w.cell? ⟨b, 1, none⟩ = some (.int .i64 (x.of : Int)) :=
  ⟨cell_of_row w b 0 _ 65 (0, 0) h, cell_of_row w b 1 _ 65 (0, 0) h⟩
theorem SBox.free {w : World} {b : Nat} {x : Sm} (h : SBox w b x) : w.frozen? ⟨b, 0, none⟩ = false ∧ w.frozen? ⟨b, 1, none⟩ = false := by
  unfold SBox at h
  simp [World.frozen?, h]
theorem SBox.below {w w' : World} {b B : Nat} {x : Sm} (h : SBox w b x) (hb : Below B w w') (hn : b < B) : SBox w' b x := (hb.block b hn).trans h
theorem SBox.drew {w : World} {b : Nat} {x : Sm} (h : SBox w b x) : SBox w.drew b x := h
theorem SBox.dN {w : World} {b : Nat} {x : Sm} (h : SBox w b x) (n : Nat) : SBox (w.drewN n) b x := h
theorem SBox.call {w w' : World} {b : Nat} {x : Sm} (h : SBox w b x) (hb : Below w.heap.size w w') : SBox w' b x := h.below hb h.lt
theorem SBox.other {w : World} {b b' o : Nat} {x : Sm} {v : Value} (h : SBox w b x) (hn : b ≠ b') : SBox (w.setCell ⟨b', o, none⟩ v) b x := (Below.heap_setCell w ⟨b', o, none⟩ v b hn).trans h
theorem SBox.put {w : World} {b : Nat} {x : Sm} (h : SBox w b x) (y : Sm) : SBox ((w.setCell ⟨b, 0, none⟩ (.int .i64 (y.row : Int))).setCell ⟨b, 1, none⟩ (.int .i64 (y.of : Int))) b y := by
  unfold SBox at h ⊢
  simp [World.setCell, Array.getElem?_modify, h]
theorem bt_add2 (x y : Nat) (b : Nat) (w : World) (hx : x < O40) (hy : y < O40) (h0 : w.cell? ⟨b, 0, none⟩ = some (.int .i64 (x : Int))) (h1 : w.cell? ⟨b, 1, none⟩ = some (.int .i64 (y : Int))) (hb : b < w.heap.size) :
    Calls Tryd.prog 62 #[.slice (some ⟨b, 0, none⟩) 2 2] w (Gives (.int .i64 ((x ^^^ y : Nat) : Int)) w) := by
  have h : Ints w (some ⟨b, 0, none⟩) (casts [x, y]) := .inr ⟨b, 0, rfl, hb, fun i z hz => by
    match i, hz with
    | 0, hz => simp [casts] at hz; subst hz; exact h0
    | 1, hz => simp [casts] at hz; subst hz; exact h1⟩
  have := bt_add [x, y] (some ⟨b, 0, none⟩) 2 w h (by simp [hx, hy]) (by simp)
  simpa [xorL] using this
set_option maxHeartbeats 4000000 in
theorem bt_plus (x y : Sm) (w : World) (hx : x.ok) (hy : y.ok) : Calls Tryd.prog 74 #[x.v, y.v] w (Gives (x.plus y).v w) := by
  have HX : Hid (∀ b w', w'.cell? ⟨b, 0, none⟩ = some (.int .i64 (x.row : Int)) → w'.cell? ⟨b, 1, none⟩ = some (.int .i64 (y.row : Int)) → b < w'.heap.size → Calls Tryd.prog 62 #[.slice (some ⟨b, 0, none⟩) 2 2] w' (Gives (.int .i64 ((x.row ^^^ y.row : Nat) : Int)) w')) := fun b w' h0 h1 hb => bt_add2 _ _ b w' (by have := hx.1; unfold R24 at this; unfold O40; omega) (by have := hy.1; unfold R24 at this; unfold O40; omega) h0 h1 hb
  have HY : Hid (∀ b w', w'.cell? ⟨b, 0, none⟩ = some (.int .i64 (x.of : Int)) → w'.cell? ⟨b, 1, none⟩ = some (.int .i64 (y.of : Int)) → b < w'.heap.size → Calls Tryd.prog 62 #[.slice (some ⟨b, 0, none⟩) 2 2] w' (Gives (.int .i64 ((x.of ^^^ y.of : Nat) : Int)) w')) := fun b w' h0 h1 hb => bt_add2 _ _ b w' hx.2 hy.2 h0 h1 hb
  obtain ⟨xr, xo⟩ := x
  obtain ⟨yr, yo⟩ := y
  clear hx hy
  unfold Sm.v
  dsimp only at HX HY ⊢
  go_enter Tryd.func74, Tryd.ntmps74
  go_wp2_with fail
  obtain ⟨V, hV⟩ : ∃ V, (((w.alloc (.cells #[.int .i64 (xr : Int), .int .i64 (xo : Int)] 65)).alloc (.cells #[.int .i64 (yr : Int), .int .i64 (yo : Int)] 65)).alloc (.cells #[.int .i64 0, .int .i64 0] 65)) = V := ⟨_, rfl⟩
  have hw : Below w.heap.size w V := by rw [← hV]; exact (by repeat (first | with_reducible exact Below.refl _ _ | with_reducible refine below_al ?_ _ | with_reducible refine below_dN ?_ _ | with_reducible refine Below.drew ?_ | (with_reducible refine Below.setCell ?_ (by simp <;> omega) _) | (with_reducible refine below_via (by assumption) ?_)))
  have hs : w.heap.size + 1 + 1 < V.heap.size := by rw [← hV]; simp
  have hx : SBox V w.heap.size ⟨xr, xo⟩ := by rw [← hV]; exact ((SBox.new w ⟨xr, xo⟩).al _).al _
  have hy : SBox V (w.heap.size + 1) ⟨yr, yo⟩ := by
    rw [← hV]
    have h := SBox.new (w.alloc (.cells #[.int .i64 (xr : Int), .int .i64 (xo : Int)] 65)) ⟨yr, yo⟩
    rw [World.size_alloc] at h
    exact h.al _
  have hz : SBox V (w.heap.size + 1 + 1) ⟨0, 0⟩ := by
    rw [← hV]
    have h := SBox.new ((w.alloc (.cells #[.int .i64 (xr : Int), .int .i64 (xo : Int)] 65)).alloc (.cells #[.int .i64 (yr : Int), .int .i64 (yo : Int)] 65)) ⟨0, 0⟩
    rw [World.size_alloc, World.size_alloc] at h
    exact h
  rw [hV]
  clear hV
  obtain ⟨x0, x1⟩ := hx.cell
  obtain ⟨y0, y1⟩ := hy.cell
  dsimp only at x0 x1 y0 y1
  obtain ⟨z0, z1⟩ := hz.cell
  obtain ⟨f0, f1⟩ := hz.free
  dsimp only at z0 z1
  have HZ := Lib.hid hz
  have HW := Lib.hid hw
  have hs0 : w.heap.size < V.heap.size := by omega
  have hs1 : w.heap.size + 1 < V.heap.size := by omega
  have hs2 : w.heap.size + 1 + 1 < V.heap.size + 1 := by omega
  have hs4 : w.heap.size < V.heap.size + 1 := by omega
  have hs5 : w.heap.size + 1 < V.heap.size + 1 := by omega
  have hs6 : w.heap.size < V.heap.size + 1 + 1 := by omega
  have hs7 : w.heap.size + 1 < V.heap.size + 1 + 1 := by omega
  have hs3 : w.heap.size + 1 + 1 < V.heap.size + 1 + 1 := by omega
  clear hx hy hz hw
  go_region_held3 (fun w' => w'.cell? ⟨w.heap.size, 0, none⟩ = some (.int .i64 (xr : Int)) ∧ w'.cell? ⟨w.heap.size, 1, none⟩ = some (.int .i64 (xo : Int)) ∧ w'.cell? ⟨w.heap.size + 1, 0, none⟩ = some (.int .i64 (yr : Int)) ∧ w'.cell? ⟨w.heap.size + 1, 1, none⟩ = some (.int .i64 (yo : Int))) ((refine ⟨?_, ?_, ?_, ?_⟩ <;> go_simp)) (first | (go_at_call 62; (with_reducible refine (HX.out _ _ ?_ ?_ ?_).mono ?_); (focus (first | (go_simp; done) | omega | (go_simp; omega))); (focus (first | (go_simp; done) | omega | (go_simp; omega))); (focus (first | (go_simp; done) | omega | (go_simp; omega))); rintro e wz1 ⟨rfl, hw1⟩; (try replace hw1 := undrawn hw1); obtain ⟨hcw1, hfw1⟩ := bcell hw1; have hz1 := hw1.size; (try simp at hz1); (try have hq1 : w.heap.size + 1 + 1 < wz1.heap.size := (by omega)); (try have hr1 : w.heap.size + 1 + 1 < wz1.heap.size + 1 := Nat.lt_succ_of_lt hq1); have ha1 : w.heap.size < wz1.heap.size := (by omega); have hb1 : w.heap.size + 1 < wz1.heap.size := (by omega); have hc1 : w.heap.size < wz1.heap.size + 1 := (by omega); have hd1 : w.heap.size + 1 < wz1.heap.size + 1 := (by omega)) | (go_at_call 62; (with_reducible refine (HY.out _ _ ?_ ?_ ?_).mono ?_); (focus (first | (go_simp; done) | omega | (go_simp; omega))); (focus (first | (go_simp; done) | omega | (go_simp; omega))); (focus (first | (go_simp; done) | omega | (go_simp; omega))); rintro e wz2 ⟨rfl, hw2⟩; (try replace hw2 := undrawn hw2); obtain ⟨hcw2, hfw2⟩ := bcell hw2; have hz2 := hw2.size; (try simp at hz2); (try have hq2 : w.heap.size + 1 + 1 < wz2.heap.size := (by omega)); (try have hr2 : w.heap.size + 1 + 1 < wz2.heap.size + 1 := Nat.lt_succ_of_lt hq2); have ha2 : w.heap.size < wz2.heap.size := (by omega); have hb2 : w.heap.size + 1 < wz2.heap.size := (by omega); have hc2 : w.heap.size < wz2.heap.size + 1 := (by omega); have hd2 : w.heap.size + 1 < wz2.heap.size + 1 := (by omega)))
  all_goals
    have hw := HW.out
    have hle : w.heap.size ≤ w.heap.size + 1 + 1 := by omega
    go_wp2_with fail
    first
      | (have hzb : SBox wz2 (w.heap.size + 1 + 1) ⟨0, 0⟩ := by repeat (first | exact HZ.out | with_reducible refine SBox.call ?_ (by assumption) | with_reducible refine SBox.al ?_ _ | with_reducible refine SBox.drew ?_)
         obtain ⟨p0, p1⟩ := (hzb.put ⟨xr ^^^ yr, xo ^^^ yo⟩).cell
         dsimp only at p0 p1
         exact bodyPost_ret (v := .agg #[.int .i64 ((xr ^^^ yr : Nat) : Int), .int .i64 ((xo ^^^ yo : Nat) : Int)]) (by simp [results, Tryd.results74, go_sem, p0, p1]) rfl ⟨rfl, (by repeat (first | with_reducible exact Below.refl _ _ | with_reducible refine below_al ?_ _ | with_reducible refine below_dN ?_ _ | with_reducible refine Below.drew ?_ | (with_reducible refine Below.setCell ?_ (by simp <;> omega) _) | (with_reducible refine below_via (by assumption) ?_)))⟩)
      | (have hzb : SBox wz1 (w.heap.size + 1 + 1) ⟨0, 0⟩ := by repeat (first | exact HZ.out | with_reducible refine SBox.call ?_ (by assumption) | with_reducible refine SBox.al ?_ _ | with_reducible refine SBox.drew ?_)
         obtain ⟨p0, p1⟩ := (hzb.put ⟨xr ^^^ yr, xo ^^^ yo⟩).cell
         dsimp only at p0 p1
         exact bodyPost_ret (v := .agg #[.int .i64 ((xr ^^^ yr : Nat) : Int), .int .i64 ((xo ^^^ yo : Nat) : Int)]) (by simp [results, Tryd.results74, go_sem, p0, p1]) rfl ⟨rfl, (by repeat (first | with_reducible exact Below.refl _ _ | with_reducible refine below_al ?_ _ | with_reducible refine below_dN ?_ _ | with_reducible refine Below.drew ?_ | (with_reducible refine Below.setCell ?_ (by simp <;> omega) _) | (with_reducible refine below_via (by assumption) ?_)))⟩)
end Go.Proofs.YtpnancidgobehaaDoor
