
/- Rows of bits: a row is brought into a span. -/
import Derived.Test.YtpnancidgobehaaDoorVd
import Derived.Test.YtpnancidgobehaaDoorKs
set_option linter.all false
set_option maxRecDepth 100000
namespace Go.Proofs.YtpnancidgobehaaDoor
open Go.RowKit

theorem SBox.beside {w w' : World} {b k : Nat} {x : Sm} (h : SBox w k x) (hb : Beside b w w') (hn : k ≠ b) : SBox w' k x := (hb.block k h.lt hn).trans h
theorem Beside.call {b : Nat} {w w1 w2 : World} (h : Beside b w w1) (k : Below w1.heap.size w1 w2) : Beside b w w2 := h.trans (Beside.of k)
def mixM (A : List Sm) (x : Sm) (lead k : Nat) : List Sm := (A.take k).map (bring1 x lead) ++ A.drop k
theorem mixM_len (A : List Sm) (x : Sm) (lead k : Nat) : (mixM A x lead k).length = A.length := by simp [mixM]; omega
theorem mixM_at {A : List Sm} (x : Sm) (lead : Nat) {k : Nat} (hk : k < A.length) : rowAt (mixM A x lead k) k = rowAt A k := by
  unfold rowAt mixM
  rw [List.getD_eq_getElem?_getD, List.getD_eq_getElem?_getD, List.getElem?_append_right (by simp; omega)]
  simp [List.getElem?_drop]
  rw [show k + (k - min k A.length) = k by omega]
theorem mixM_next {A : List Sm} (x : Sm) (lead : Nat) {k : Nat} (hk : k < A.length) : (mixM A x lead k).set k (bring1 x lead (rowAt A k)) = mixM A x lead (k + 1) := by
  have hA : rowAt A k = A[k] := by unfold rowAt; rw [List.getD_eq_getElem?_getD, List.getElem?_eq_getElem hk]; rfl
  have h1 : A.drop k = A[k] :: A.drop (k + 1) := List.drop_eq_getElem_cons hk
  have h2 : A.take (k + 1) = A.take k ++ [A[k]] := List.take_succ_eq_append_getElem hk
  have h3 : k - ((A.take k).map (bring1 x lead)).length = 0 := by simp only [List.length_map, List.length_take]; omega
  unfold mixM
  rw [h2, List.set_append_right _ _ (by simp only [List.length_map, List.length_take]; omega), h3, h1, hA]
  simp only [List.map_append, List.map_cons, List.map_nil, List.set_cons_zero, List.append_assoc, List.singleton_append]
theorem mixM_same {A : List Sm} (x : Sm) (lead : Nat) {k : Nat} (hk : k < A.length) (h : (rowAt A k).row.testBit lead = false) : mixM A x lead (k + 1) = mixM A x lead k := by
  rw [← mixM_next x lead hk]
  have hA : bring1 x lead (rowAt A k) = rowAt (mixM A x lead k) k := by rw [mixM_at x lead hk]; unfold bring1; rw [h]; rfl
  rw [hA]
  have hl : k < (mixM A x lead k).length := by rw [mixM_len]; exact hk
  have : rowAt (mixM A x lead k) k = (mixM A x lead k)[k] := by unfold rowAt; rw [List.getD_eq_getElem?_getD, List.getElem?_eq_getElem hl]; rfl
  rw [this, List.set_getElem_self]
theorem mixM_end {A : List Sm} (x : Sm) (lead : Nat) : (mixM A x lead A.length).set lead x = bringM A x lead := by
  unfold mixM bringM
  simp

set_option maxHeartbeats 8000000 in
theorem bt_bring (A : List Sm) (hA : Small A) (b bs : Nat) (rv : Value) (x : Sm) (hx : x.ok) (lead : Nat) (hl : lead < 24) (w : World) (h : SysAt w b A rv) (hp : w.cell? ⟨bs, 0, none⟩ = some (.pointer (some ⟨b, 0, none⟩))) (hbs : bs ≠ b) (hbl : bs < w.heap.size) :
    Calls Tryd.prog 72 #[x.v, .int .i64 (lead : Int), .pointer (some ⟨bs, 0, none⟩)] w (fun e w' => e = .returned (.tuple #[]) ∧ SysAt w' b (bringM A x lead) rv ∧ Beside b w w') := by
  have HH : Hid (∀ (r k : Nat) w, r < R24 → k < 24 → Calls Tryd.prog 73 #[.int .i64 (r : Int), .int .i64 (k : Int)] w (Gives (.bool (r.testBit k)) w)) := fun r k w hr hk => bt_has r k w (by unfold R24 at hr; omega) (by omega)
  have HP : Hid (∀ (x y : Sm) w, x.ok → y.ok → Calls Tryd.prog 74 #[x.v, y.v] w (Gives (x.plus y).v w)) := fun x y w hx hy => bt_plus x y w hx hy
  have hltb := h.lt
  have hA1 := hA.1
  have HX : Hid (SBox (w.alloc (.cells #[.int .i64 (x.row : Int), .int .i64 (x.of : Int)] 65)) w.heap.size x) := SBox.new w x
  have HS : Hid (SysAt (w.alloc (.cells #[.int .i64 (x.row : Int), .int .i64 (x.of : Int)] 65)) b (mixM A x lead 0) rv) := by
    have : mixM A x lead 0 = A := by simp [mixM]
    rw [this]; exact h.al _
  have HPB : Hid (w.cell? ⟨bs, 0, none⟩ = some (.pointer (some ⟨b, 0, none⟩))) := hp
  clear h hp
  show Calls _ _ #[.agg #[.int .i64 (x.row : Int), .int .i64 (x.of : Int)], _, _] _ _
  go_enter Tryd.func72, Tryd.ntmps72
  go_wp2_with fail
  go_loopw [6] (fun i wr => ∃ (k : Nat), k ≤ 24 ∧ i = .int .i64 k ∧ Hid (Beside b w wr) ∧ Hid (SBox wr w.heap.size x) ∧ Hid (SysAt wr b (mixM A x lead k) rv)) (fun i _ => 24 - (intOf i).toNat)
  case atStart => exact ⟨0, by omega, rfl, (Beside.refl b w).al _, HX.out, HS.out⟩
  case round =>
    obtain ⟨k, hk, rfl, HB, HX, HS⟩ := hrel
    have hp1 := HB.out.cell hbs HPB.out
    have hsz := HB.out.size
    have hbw : b < wr.heap.size := by omega
    have hbsw : bs < wr.heap.size := by omega
    by_cases hlt : k < 24
    · have hrw := HS.out.row hlt
      rw [mixM_at x lead (by omega)] at hrw
      obtain ⟨c0, c1⟩ := hrw
      go_wp2_with fail
      refine (HH.out _ _ _ (hA.at_ k).1 hl).mono ?_
      rintro e w1 ⟨rfl, hb1⟩
      have HB1 := Lib.hid (HB.out.call hb1)
      have HX1 := Lib.hid (HX.out.call hb1)
      have HS1 := Lib.hid (HS.out.call hb1)
      have hs1 := hb1.size
      clear c0 c1 hp1 HB HX HS hb1
      have hp1 := HB1.out.cell hbs HPB.out
      cases hbit : (rowAt A k).row.testBit lead
      · have HS2 : Hid (SysAt w1 b (mixM A x lead (k + 1)) rv) := by rw [mixM_same x lead (by omega) hbit]; exact HS1.out
        clear hbit HS1
        go_wp2_with fail
        go_roundw
        case rel => exact ⟨k + 1, by omega, by go_num, HB1, HX1, HS2⟩
        case measure => simp [intOf]; omega
      · have hok := hA.at_ k
        have hbr : (rowAt A k).plus x = bring1 x lead (rowAt A k) := by unfold bring1; rw [hbit]; rfl
        have HP1 : Hid (∀ w, Calls Tryd.prog 74 #[.agg #[.int .i64 ((rowAt A k).row : Int), .int .i64 ((rowAt A k).of : Int)], .agg #[.int .i64 (x.row : Int), .int .i64 (x.of : Int)]] w (Gives (.agg #[.int .i64 ((bring1 x lead (rowAt A k)).row : Int), .int .i64 ((bring1 x lead (rowAt A k)).of : Int)]) w)) := fun w => by rw [← hbr]; exact HP.out (rowAt A k) x w hok hx
        have hrw := HS1.out.row hlt
        rw [mixM_at x lead (by omega)] at hrw
        obtain ⟨c0, c1⟩ := hrw
        obtain ⟨x0, x1⟩ := HX1.out.cell
        have f0 := HS1.out.free (k * 2)
        have f1 := HS1.out.free (k * 2 + 1)
        have HN : Hid (∀ w', SysAt w' b (mixM A x lead k) rv → SysAt ((w'.setCell ⟨b, k * 2, none⟩ (.int .i64 ((bring1 x lead (rowAt A k)).row : Int))).setCell ⟨b, k * 2 + 1, none⟩ (.int .i64 ((bring1 x lead (rowAt A k)).of : Int))) b (mixM A x lead (k + 1)) rv) := fun w' h' => by
          have := h'.put hlt (bring1 x lead (rowAt A k))
          rwa [mixM_next x lead (by omega)] at this
        have hxl := HX1.out.lt
        have hbw1 : b < w1.heap.size := by omega
        have hbsw1 : bs < w1.heap.size := by omega
        clear hbit hbr
        generalize bring1 x lead (rowAt A k) = z at *
        generalize (rowAt A k).row = cr at *
        generalize (rowAt A k).of = co at *
        go_wp2_with fail
        go_region_with (first | (go_at_call 74; (with_reducible refine (HP1.out _).mono ?_); rintro e w2 ⟨rfl, hw2⟩; (try replace hw2 := undrawn hw2); obtain ⟨hcw2, hfw2⟩ := bcell hw2; have hz2 := hw2.size; (try simp at hz2)))
        all_goals
          go_wp2_with fail
          go_roundw
          case rel => exact ⟨k + 1, by omega, by go_num, ((HB1.out.call hw2).set _ _).set _ _, ((HX1.out.call hw2).other (by omega)).other (by omega), HN.out w2 (HS1.out.call hw2)⟩
          case measure => simp [intOf]; omega
    · obtain rfl : k = 24 := by omega
      have HE : Hid (∀ w', SysAt w' b (mixM A x lead 24) rv → SysAt ((w'.setCell ⟨b, lead * 2, none⟩ (.int .i64 (x.row : Int))).setCell ⟨b, lead * 2 + 1, none⟩ (.int .i64 (x.of : Int))) b (bringM A x lead) rv) := fun w' h' => by
        have := h'.put hl x
        have e := mixM_end (A := A) x lead
        rw [hA1] at e
        rwa [e] at this
      obtain ⟨x0, x1⟩ := HX.out.cell
      have hxl := HX.out.lt
      obtain ⟨c0, c1⟩ := HS.out.row hl
      have f0 := HS.out.free (lead * 2)
      have f1 := HS.out.free (lead * 2 + 1)
      generalize (rowAt (mixM A x lead 24) lead).row = cr at *
      generalize (rowAt (mixM A x lead 24) lead).of = co at *
      go_wp2_with fail
      go_region_with fail
      all_goals
        go_wp2_with fail
        go_end0
        exact ⟨rfl, HE.out wr HS.out, ((HB.out.set _ _).set _ _).drew⟩
end Go.Proofs.YtpnancidgobehaaDoor
