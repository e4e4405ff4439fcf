
/- Rows of bits: the span in memory; what is left of a row. -/
import Derived.Test.YtpnancidgobehaaDoorVc
set_option linter.all false
set_option maxRecDepth 100000
namespace Go.Proofs.YtpnancidgobehaaDoor
open Go.RowKit

theorem flat_len (A : List Sm) : (A.flatMap Sm.cells).length = A.length * 2 := by
  induction A with
  | nil => rfl
  | cons y A ih => simp [Sm.cells, ih]; omega
theorem flat_at : ∀ (A : List Sm) (k : Nat) (y : Sm), A[k]? = some y → (A.flatMap Sm.cells)[k * 2]? = some (.int .i64 (y.row : Int)) ∧ (A.flatMap Sm.cells)[k * 2 + 1]? = some (.int .i64 (y.of : Int))
  | [], k, y, h => by simp at h
  | z :: A, 0, y, h => by simp at h; subst h; simp [Sm.cells]
  | z :: A, k + 1, y, h => by
    have := flat_at A k y (by simpa using h)
    have e : (k + 1) * 2 = k * 2 + 2 := by omega
    rw [e]
    simpa [Sm.cells] using this
theorem flat_set : ∀ (A : List Sm) (k : Nat) (y : Sm), ((A.flatMap Sm.cells).set (k * 2) (.int .i64 (y.row : Int))).set (k * 2 + 1) (.int .i64 (y.of : Int)) = (A.set k y).flatMap Sm.cells
  | [], k, y => by simp
  | z :: A, 0, y => by simp [Sm.cells]
  | z :: A, k + 1, y => by
    have := flat_set A k y
    have e : (k + 1) * 2 = k * 2 + 2 := by omega
    rw [e]
    simpa [Sm.cells] using this
/-- The program's system: 24 rows with what they are made of, and the relations. -/
def SysAt (w : World) (b : Nat) (A : List Sm) (rv : Value) : Prop := A.length = 24 ∧ w.heap[b]? = some (.cells (A.flatMap Sm.cells ++ [rv]).toArray 70 (0, 0))
theorem SysAt.lt {w : World} {b : Nat} {A : List Sm} {rv : Value} (h : SysAt w b A rv) : b < w.heap.size := (Array.getElem?_eq_some_iff.1 h.2).1
theorem SysAt.al {w : World} {b : Nat} {A : List Sm} {rv : Value} (h : SysAt w b A rv) (o : Obj) : SysAt (w.alloc o) b A rv := ⟨h.1, (Below.heap_alloc w o b h.lt).trans h.2⟩
theorem SysAt.drew {w : World} {b : Nat} {A : List Sm} {rv : Value} (h : SysAt w b A rv) : SysAt w.drew b A rv := h
theorem SysAt.below {w w' : World} {b B : Nat} {A : List Sm} {rv : Value} (h : SysAt w b A rv) (hb : Below B w w') (hn : b < B) : SysAt w' b A rv := ⟨h.1, (hb.block b hn).trans h.2⟩
theorem SysAt.call {w w' : World} {b : Nat} {A : List Sm} {rv : Value} (h : SysAt w b A rv) (hb : Below w.heap.size w w') : SysAt w' b A rv := h.below hb h.lt
theorem SysAt.other {w : World} {b b' o : Nat} {A : List Sm} {rv v : Value} (h : SysAt w b A rv) (hn : b ≠ b') : SysAt (w.setCell ⟨b', o, none⟩ v) b A rv := ⟨h.1, (Below.heap_setCell w ⟨b', o, none⟩ v b hn).trans h.2⟩
theorem SysAt.free {w : World} {b : Nat} {A : List Sm} {rv : Value} (h : SysAt w b A rv) (i : Nat) : w.frozen? ⟨b, i, none⟩ = false := by
  have := h.2
  simp [World.frozen?, this]
theorem SysAt.row {w : World} {b : Nat} {A : List Sm} {rv : Value} (h : SysAt w b A rv) {k : Nat} (hk : k < 24) : w.cell? ⟨b, k * 2, none⟩ = some (.int .i64 ((rowAt A k).row : Int)) ∧ w.cell? ⟨b, k * 2 + 1, none⟩ = some (.int .i64 ((rowAt A k).of : Int)) := by
  have hA : A[k]? = some (rowAt A k) := by
    unfold rowAt; rw [List.getD_eq_getElem?_getD, List.getElem?_eq_getElem (by have := h.1; omega)]; rfl
  have hl := flat_len A
  have h1 := h.1
  obtain ⟨ha, hb⟩ := flat_at A k _ hA
  constructor
  · rw [cell_of_row w b (k * 2) _ 70 (0, 0) h.2]
    simp only [List.getElem?_toArray]
    rw [List.getElem?_append_left (by omega)]; exact ha
  · rw [cell_of_row w b (k * 2 + 1) _ 70 (0, 0) h.2]
    simp only [List.getElem?_toArray]
    rw [List.getElem?_append_left (by omega)]; exact hb
theorem SysAt.rel {w : World} {b : Nat} {A : List Sm} {rv : Value} (h : SysAt w b A rv) : w.cell? ⟨b, 48, none⟩ = some rv := by
  have hl := flat_len A
  have h1 := h.1
  rw [cell_of_row w b 48 _ 70 (0, 0) h.2]
  simp only [List.getElem?_toArray]
  rw [List.getElem?_append_right (by omega), show 48 - (A.flatMap Sm.cells).length = 0 by omega]; rfl
theorem SysAt.put {w : World} {b : Nat} {A : List Sm} {rv : Value} (h : SysAt w b A rv) {k : Nat} (hk : k < 24) (y : Sm) : SysAt ((w.setCell ⟨b, k * 2, none⟩ (.int .i64 (y.row : Int))).setCell ⟨b, k * 2 + 1, none⟩ (.int .i64 (y.of : Int))) b (A.set k y) rv := by
  have hl := flat_len A
  obtain ⟨h1, h2⟩ := h
  refine ⟨by simpa using h1, ?_⟩
  have e : (((A.flatMap Sm.cells ++ [rv]).set (k * 2) (.int .i64 (y.row : Int))).set (k * 2 + 1) (.int .i64 (y.of : Int))) = (A.set k y).flatMap Sm.cells ++ [rv] := by
    rw [List.set_append_left _ _ (by omega), List.set_append_left _ _ (by rw [List.length_set]; omega), flat_set]
  rw [← e]
  simp [World.setCell, Array.getElem?_modify, h2]
theorem SysAt.putRel {w : World} {b : Nat} {A : List Sm} {rv : Value} (h : SysAt w b A rv) (v : Value) : SysAt (w.setCell ⟨b, 48, none⟩ v) b A v := by
  have hl := flat_len A
  obtain ⟨h1, h2⟩ := h
  refine ⟨h1, ?_⟩
  have e : (A.flatMap Sm.cells ++ [rv]).set 48 v = A.flatMap Sm.cells ++ [v] := by
    rw [List.set_append_right _ _ (by omega), show 48 - (A.flatMap Sm.cells).length = 0 by omega]; rfl
  rw [← e]
  simp [World.setCell, Array.getElem?_modify, h2]

set_option maxHeartbeats 4000000 in
theorem bt_rest (A : List Sm) (hA : Small A) (b : Nat) (rv : Value) (x : Sm) (hx : x.ok) (w : World) (h : SysAt w b A rv) :
    Calls Tryd.prog 71 #[.pointer (some ⟨b, 0, none⟩), x.v] w (Gives (restM A 24 0 x).v w) := by
  have HH : Hid (∀ (r k : Nat) w, r < R24 → k < 24 → Calls Tryd.prog 73 #[.int .i64 (r : Int), .int .i64 (k : Int)] w (Gives (.bool (r.testBit k)) w)) := fun r k w hr hk => bt_has r k w (by unfold R24 at hr; omega) (by omega)
  have HP : Hid (∀ (x y : Sm) w, x.ok → y.ok → Calls Tryd.prog 74 #[x.v, y.v] w (Gives (x.plus y).v w)) := fun x y w hx hy => bt_plus x y w hx hy
  obtain ⟨R, hR⟩ : ∃ R, restM A 24 0 x = R := ⟨_, rfl⟩
  rw [hR]
  have HR : Hid (R = restM A (24 - 0) 0 x) := hR.symm
  have HS := Lib.hid h
  have hltb := h.lt
  have HX : Hid (SBox ((w.alloc (.cells #[.int .i64 (x.row : Int), .int .i64 (x.of : Int)] 65)).alloc (.cells #[.int .i64 0, .int .i64 0] 65)) w.heap.size x) := (SBox.new w x).al _
  have HZ : Hid (SBox ((w.alloc (.cells #[.int .i64 (x.row : Int), .int .i64 (x.of : Int)] 65)).alloc (.cells #[.int .i64 0, .int .i64 0] 65)) (w.heap.size + 1) ⟨0, 0⟩) := by
    have h := SBox.new (w.alloc (.cells #[.int .i64 (x.row : Int), .int .i64 (x.of : Int)] 65)) ⟨0, 0⟩
    rw [World.size_alloc] at h
    exact h
  clear hR h
  show Calls _ _ #[_, .agg #[.int .i64 (x.row : Int), .int .i64 (x.of : Int)]] _ _
  go_enter Tryd.func71, Tryd.ntmps71
  go_wp2_with fail
  go_loopw [6] (fun i wr => ∃ (k : Nat) (y : Sm), k ≤ 24 ∧ y.ok ∧ i = .int .i64 k ∧ Below w.heap.size w wr ∧ Hid (SBox wr w.heap.size y) ∧ Hid (SBox wr (w.heap.size + 1) ⟨0, 0⟩) ∧ Hid (R = restM A (24 - k) k y)) (fun i _ => 24 - (intOf i).toNat)
  case atStart => exact ⟨0, x, by omega, hx, rfl, (by repeat (first | with_reducible exact Below.refl _ _ | with_reducible refine below_al ?_ _ | with_reducible refine below_dN ?_ _ | with_reducible refine Below.drew ?_ | (with_reducible refine Below.setCell ?_ (by simp <;> omega) _) | (with_reducible refine below_via (by assumption) ?_))), HX.out, HZ.out, HR.out⟩
  case round =>
    obtain ⟨k, y, hk, hy, rfl, hwr, HX, HZ, HR⟩ := hrel
    by_cases hlt : k < 24
    · obtain ⟨x0, x1⟩ := HX.out.cell
      have hxl := HX.out.lt
      go_wp2_with fail
      refine (HH.out _ _ _ hy.1 hlt).mono ?_
      rintro e w1 ⟨rfl, hb1⟩
      have HX1 := Lib.hid (HX.out.call hb1)
      have HZ1 := Lib.hid (HZ.out.call hb1)
      have hw1 := below_via hb1 hwr
      have HS1 := Lib.hid (HS.out.below hw1 hltb)
      have hlt1 := hw1.size
      clear x0 x1 hxl HX HZ hb1
      cases hbit : y.row.testBit k
      · have HR1 : Hid (R = restM A (24 - (k + 1)) (k + 1) y) := by
          have := HR.out
          rw [show 24 - k = (24 - (k + 1)) + 1 by omega] at this
          unfold restM at this
          rw [hbit] at this
          exact this
        clear hbit HR
        go_wp2_with fail
        go_roundw
        case rel => exact ⟨k + 1, y, by omega, hy, by go_num, hw1, HX1, HZ1, HR1⟩
        case measure => simp [intOf]; omega
      · have HR1 : Hid (R = restM A (24 - (k + 1)) (k + 1) (y.plus (rowAt A k))) := by
          have := HR.out
          rw [show 24 - k = (24 - (k + 1)) + 1 by omega] at this
          unfold restM at this
          rw [hbit] at this
          exact this
        clear hbit HR
        have hok := hA.at_ k
        have hpo := Sm.plus_ok hy hok
        have HP1 : Hid (∀ w, Calls Tryd.prog 74 #[.agg #[.int .i64 (y.row : Int), .int .i64 (y.of : Int)], .agg #[.int .i64 ((rowAt A k).row : Int), .int .i64 ((rowAt A k).of : Int)]] w (Gives (.agg #[.int .i64 ((y.plus (rowAt A k)).row : Int), .int .i64 ((y.plus (rowAt A k)).of : Int)]) w)) := fun w => HP.out y (rowAt A k) w hy hok
        obtain ⟨c0, c1⟩ := HS1.out.row hlt
        obtain ⟨x0, x1⟩ := HX1.out.cell
        obtain ⟨f0, f1⟩ := HX1.out.free
        have hxl := HX1.out.lt
        have hbw : b < w1.heap.size := by omega
        generalize y.plus (rowAt A k) = z at *
        generalize (rowAt A k).row = cr at *
        generalize (rowAt A k).of = co at *
        go_wp2_with fail
        go_region_with (first | (go_at_call 74; (with_reducible refine (HP1.out _).mono ?_); rintro e w2 ⟨rfl, hw2⟩; (try replace hw2 := undrawn hw2); obtain ⟨hcw2, hfw2⟩ := bcell hw2; have hz2 := hw2.size; (try simp at hz2)))
        all_goals
          go_wp2_with fail
          go_roundw
          case rel => exact ⟨k + 1, z, by omega, hpo, by go_num, (by repeat (first | with_reducible exact Below.refl _ _ | with_reducible refine below_al ?_ _ | with_reducible refine below_dN ?_ _ | with_reducible refine Below.drew ?_ | (with_reducible refine Below.setCell ?_ (by simp <;> omega) _) | (with_reducible refine below_via (by assumption) ?_))), (HX1.out.call hw2).put z, ((HZ1.out.call hw2).other (by omega)).other (by omega), HR1⟩
          case measure => simp [intOf]; omega
    · obtain rfl : k = 24 := by omega
      have hRy : R = y := HR.out
      obtain ⟨x0, x1⟩ := HX.out.cell
      obtain ⟨z0, z1⟩ := HZ.out.cell
      obtain ⟨f0, f1⟩ := HZ.out.free
      have hxl := HX.out.lt
      have hzl := HZ.out.lt
      have HRy := Lib.hid hRy
      obtain ⟨p0, p1⟩ := (HZ.out.put y).cell
      dsimp only at z0 z1
      clear hRy
      go_wp2_with fail
      rw [HRy.out]
      exact bodyPost_ret (v := y.v) (by simp [results, Tryd.results71, go_sem, p0, p1, Sm.v]) rfl ⟨rfl, by have hle : w.heap.size ≤ w.heap.size + 1 := (by omega); exact (by repeat (first | with_reducible exact Below.refl _ _ | with_reducible refine below_al ?_ _ | with_reducible refine below_dN ?_ _ | with_reducible refine Below.drew ?_ | (with_reducible refine Below.setCell ?_ (by simp <;> omega) _) | (with_reducible refine below_via (by assumption) ?_)))⟩
end Go.Proofs.YtpnancidgobehaaDoor
