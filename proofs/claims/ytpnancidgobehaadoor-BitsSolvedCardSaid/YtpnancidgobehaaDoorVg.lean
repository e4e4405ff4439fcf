
/- Rows of bits: rows are brought into a span. -/
import Derived.Test.YtpnancidgobehaaDoorVf
import Derived.Deep.LoopGhost
set_option linter.all false
set_option maxRecDepth 100000
namespace Go.Proofs.YtpnancidgobehaaDoor
open Go.RowKit

def sys0 : List Sm := List.replicate 24 sm0
def sysV : Array Value := (sys0.flatMap Sm.cells ++ [Value.slice none 0 0]).toArray
theorem sys_new (w : World) : SysAt (w.alloc (.cells sysV 70)) w.heap.size sys0 (.slice none 0 0) := ⟨rfl, heap_alloc_new w _⟩
def Spans (l : List Nat) (w : World) (e : Ending) (w' : World) : Prop :=
  ∃ rv, e = .returned (.pointer (some ⟨w.heap.size, 0, none⟩)) ∧ SysAt w' w.heap.size (spanned l).at_ rv ∧ Mine w' (w.heap.size + 2) rv (casts (spanned l).rel) ∧ Below w.heap.size w w'
/-- What lies in memory while rows are brought into a span. -/
structure InSpan (w : World) (S : Sys) (rv : Value) (wx : World) : Prop where
  bel : Below w.heap.size w wx
  siz : w.heap.size + 2 ≤ wx.heap.size
  sys : SysAt wx w.heap.size S.at_ rv
  mine : Mine wx (w.heap.size + 2) rv (casts S.rel)
  ptr : wx.cell? ⟨w.heap.size + 1, 0, none⟩ = some (.pointer (some ⟨w.heap.size, 0, none⟩))
theorem InSpan.call {w : World} {S : Sys} {rv : Value} {wx wy : World} (h : InSpan w S rv wx) (hb : Below wx.heap.size wx wy) : InSpan w S rv wy :=
  ⟨below_via hb h.bel, Nat.le_trans h.siz hb.size, h.sys.call hb, h.mine.call hb, by rw [(bcell hb).1 _ _ (by have := h.siz; omega)]; exact h.ptr⟩
theorem InSpan.al {w : World} {S : Sys} {rv : Value} {wx : World} (h : InSpan w S rv wx) (o : Obj) : InSpan w S rv (wx.alloc o) := h.call ((Below.refl _ wx).alloc (Nat.le_refl _) o)
theorem InSpan.drew {w : World} {S : Sys} {rv : Value} {wx : World} (h : InSpan w S rv wx) : InSpan w S rv wx.drew := h.call ((Below.refl _ wx).drew)
theorem InSpan.grown {w : World} {S : Sys} {rv : Value} {W w4 : World} (h : InSpan w S rv W) (hg : W.grownBy w4 rv.ownBlock) :
    SysAt w4 w.heap.size S.at_ rv ∧ w4.cell? ⟨w.heap.size + 1, 0, none⟩ = some (.pointer (some ⟨w.heap.size, 0, none⟩)) ∧ Below w.heap.size w w4 ∧ w.heap.size + 2 ≤ w4.heap.size :=
  ⟨h.sys.grown h.mine hg (by omega), cell_grown h.ptr (by have := h.siz; omega) h.mine hg (by omega), below_grown h.bel h.mine hg (by omega) (by have := h.siz; omega), by have := below_grown h.bel h.mine hg (by omega) (by have := h.siz; omega); have h2 := h.siz; have h3 := hg.size; omega⟩
theorem InSpan.rel {w : World} {S : Sys} {rv nv : Value} {w4 : World} {r : Nat} (h : SysAt w4 w.heap.size S.at_ rv ∧ w4.cell? ⟨w.heap.size + 1, 0, none⟩ = some (.pointer (some ⟨w.heap.size, 0, none⟩)) ∧ Below w.heap.size w w4 ∧ w.heap.size + 2 ≤ w4.heap.size)
    (hm : Mine w4 (w.heap.size + 2) nv (casts S.rel ++ [(r : Int)])) : InSpan w ⟨S.at_, S.rel ++ [r]⟩ nv (w4.setCell ⟨w.heap.size, 48, none⟩ nv) := by
  obtain ⟨h1, h2, h3, h4⟩ := h
  refine ⟨h3.setCell (Nat.le_refl _) _, by simpa using h4, h1.putRel nv, ?_, ?_⟩
  · have e : casts (S.rel ++ [r]) = casts S.rel ++ [(r : Int)] := by simp [casts]
    show Mine _ _ _ (casts (S.rel ++ [r]))
    rw [e]
    exact hm.other (by omega)
  · rw [World.cell?_setCell_other _ _ _ _ (by simp)]; exact h2
theorem pow40 {k : Nat} (hk : k < 40) : 2 ^ k < O40 := by
  have : 2 ^ k < 2 ^ 40 := Nat.pow_lt_pow_right (by omega) hk
  unfold O40; omega
theorem pow_wrap {k : Nat} (hk : k < 40) : wrap64 ((2 : Int) ^ k) = ((2 ^ k : Nat) : Int) := by
  have e : ((2 : Int) ^ k) = ((2 ^ k : Nat) : Int) := by simp
  have h := pow40 hk
  unfold O40 at h
  rw [e]
  generalize 2 ^ k = q at h ⊢
  exact IntWalk.wrap64_in _ ⟨by omega, by omega⟩
theorem stepM_some {S : Sys} {k x j : Nat} {y : Sm} (h : restM S.at_ 24 0 ⟨x, 2 ^ k⟩ = y) (hl : leadM y.row 24 = some j) : stepM S k x = ⟨bringM S.at_ y j, S.rel⟩ := by
  subst h; unfold stepM; rw [hl]
theorem stepM_none {S : Sys} {k x : Nat} {y : Sm} (h : restM S.at_ 24 0 ⟨x, 2 ^ k⟩ = y) (hl : leadM y.row 24 = none) : stepM S k x = ⟨S.at_, S.rel ++ [y.of]⟩ := by
  subst h; unfold stepM; rw [hl]
theorem leadM_next {r g : Nat} {R : Option Nat} (h : R = leadM r (g + 1)) : (r.testBit g = true → R = some g) ∧ (r.testBit g = false → R = leadM r g) := by
  unfold leadM at h
  exact ⟨fun hb => by rw [hb] at h; exact h, fun hb => by rw [hb] at h; exact h⟩
set_option maxHeartbeats 8000000 in
theorem bt_spanned (l : List Nat) (hl : ∀ x ∈ l, x < R24) (hn : l.length ≤ 40) (p : Option Addr) (cap : Nat) (w : World) (h : Ints w p (casts l)) :
    Calls Tryd.prog 46 #[.slice p l.length cap] w (Spans l w) := by
  have HI := Lib.hid h
  have HM : Hid (∀ w b A rv x, Small A → x.ok → SysAt w b A rv → Calls Tryd.prog 71 #[.pointer (some ⟨b, 0, none⟩), x.v] w (Gives (restM A 24 0 x).v w)) := fun w b A rv x hA hx h => bt_rest A hA b rv x hx w h
  have HH : Hid (∀ (r k : Nat) w, r < R24 → k < 24 → Calls Tryd.prog 73 #[.int .i64 (r : Int), .int .i64 (k : Int)] w (Gives (.bool (r.testBit k)) w)) := fun r k w hr hk => bt_has r k w (by unfold R24 at hr; omega) (by omega)
  obtain ⟨R, hR⟩ : ∃ R, spanned l = R := ⟨_, rfl⟩
  have HR : Hid (R = spanM (l.drop 0) 0 ⟨sys0, []⟩) := hR.symm
  unfold Spans
  rw [hR]
  have hbd : ∀ w, (Instr.build 70 #[]).run Tryd.prog w = .ok (.agg sysV) w := fun _ => by kernel_rfl
  have HS0 : Hid (SysAt ((w.alloc (.cells sysV 70)).alloc (.cells #[.pointer (some ⟨w.heap.size, 0, none⟩)] 61)) w.heap.size sys0 (.slice none 0 0)) := (sys_new w).al _
  clear h hR
  go_enter Tryd.func46, Tryd.ntmps46
  go_wp2_with fail
  go_step3
  go_wp2_with fail
  go_step3
  go_wp2_with fail
  clear hbd
  have HP0 : Hid (((w.alloc (.cells sysV 70)).alloc (.cells #[.pointer (some ⟨w.heap.size, 0, none⟩)] 61)).cell? ⟨w.heap.size + 1, 0, none⟩ = some (.pointer (some ⟨w.heap.size, 0, none⟩))) := by
    have h := heap_alloc_new (w.alloc (.cells sysV 70)) (.cells #[.pointer (some ⟨w.heap.size, 0, none⟩)] 61)
    rw [World.size_alloc] at h
    exact cell_of_row _ _ 0 _ _ _ h
  have HB0 : Hid (Below w.heap.size w ((w.alloc (.cells sysV 70)).alloc (.cells #[.pointer (some ⟨w.heap.size, 0, none⟩)] 61)) ∧ w.heap.size + 2 ≤ ((w.alloc (.cells sysV 70)).alloc (.cells #[.pointer (some ⟨w.heap.size, 0, none⟩)] 61)).heap.size) := ⟨(by repeat (first | with_reducible exact Below.refl _ _ | with_reducible refine below_al ?_ _ | with_reducible refine below_dN ?_ _ | with_reducible refine Below.drew ?_ | (with_reducible refine Below.setCell ?_ (by simp <;> omega) _) | (with_reducible refine below_via (by assumption) ?_))), by simp⟩
  have HIN : Hid (InSpan w ⟨sys0, []⟩ (.slice none 0 0) ((w.alloc (.cells sysV 70)).alloc (.cells #[.pointer (some ⟨w.heap.size, 0, none⟩)] 61))) := ⟨HB0.out.1, HB0.out.2, HS0.out, Mine.nil _ _, HP0.out⟩
  clear HB0 HS0 HP0
  go_loopg [19] l.length (fun g i wr => ∃ (k : Nat) (S : Sys) (rv : Value), k + g = l.length ∧ i = .int .i64 k ∧ S.ok k ∧ Hid (InSpan w S rv wr) ∧ Hid (R = spanM (l.drop k) k S))
  case atStart => exact ⟨0, ⟨sys0, []⟩, .slice none 0 0, by omega, rfl, start_ok, HIN, HR⟩
  case round =>
    obtain ⟨k, S, rv, hkg, rfl, hS, HIN, HR⟩ := hrel
    cases gk with
    | zero =>
      have hlt : ¬ (k : Int) < l.length := by omega
      have hRS : R = S := by rw [HR.out, List.drop_eq_nil_of_le (by omega)]; rfl
      subst hRS
      have hp := HIN.out.ptr
      clear HR
      go_wp2_with fail
      try rw [Exit.noGoto_ret]
      go_ret
      exact ⟨rv, rfl, HIN.out.sys, HIN.out.mine, HIN.out.bel⟩
    | succ go =>
      have hlt : (k : Int) < l.length := by omega
      have hk40 : k < 40 := by omega
      obtain ⟨x, hxk⟩ : ∃ x, l[k]? = some x := ⟨_, List.getElem?_eq_getElem (by omega)⟩
      obtain ⟨b, off, rfl, hb, hc⟩ := (HI.out.below HIN.out.bel).at_ (casts_at hxk)
      have hxr := hl x (List.mem_of_getElem? hxk)
      have HD := Lib.hid (HR.out.trans (spanM_drop hxk S))
      have HSN := Lib.hid (stepM_ok hS hxr hk40)
      obtain ⟨y, hy⟩ : ∃ y, restM S.at_ 24 0 ⟨x, 2 ^ k⟩ = y := ⟨_, rfl⟩
      have hyok : y.ok := by rw [← hy]; exact restM_ok hS.1 _ _ _ ⟨hxr, pow40 hk40⟩
      have HS1 : Hid (∀ j, leadM y.row 24 = some j → stepM S k x = ⟨bringM S.at_ y j, S.rel⟩) := fun j => stepM_some hy
      have HS2 : Hid (leadM y.row 24 = none → stepM S k x = ⟨S.at_, S.rel ++ [y.of]⟩) := stepM_none hy
      have hpw := pow_wrap hk40
      have HM1 : Hid (∀ w', InSpan w S rv w' → Calls Tryd.prog 71 #[.pointer (some ⟨w.heap.size, 0, none⟩), .agg #[.int .i64 (x : Int), .int .i64 (wrap64 ((2 : Int) ^ k))]] w' (Gives (.agg #[.int .i64 (y.row : Int), .int .i64 (y.of : Int)]) w')) := fun w' h' => by
        rw [hpw]
        have := HM.out w' w.heap.size S.at_ rv ⟨x, 2 ^ k⟩ hS.1 ⟨hxr, pow40 hk40⟩ h'.sys
        rw [hy] at this
        exact this
      clear hxk HR hy hpw
      go_wp2_with fail
      refine (HM1.out _ HIN.out).mono ?_
      rintro e w1 ⟨rfl, hb1⟩
      have HIN1 := Lib.hid ((HIN.out.call hb1).al (.cells #[.int .i64 (y.row : Int), .int .i64 (y.of : Int)] 65))
      have HX1 := Lib.hid (SBox.new w1 y)
      have hbx : w.heap.size + 2 ≤ w1.heap.size := (HIN.out.call hb1).siz
      clear HIN hb1 hc
      go_wp2_with fail
      obtain ⟨W, hW⟩ : ∃ W, w1.alloc (.cells #[.int .i64 (y.row : Int), .int .i64 (y.of : Int)] 65) = W := ⟨_, rfl⟩
      rw [hW] at HIN1 HX1 ⊢
      clear hW
      generalize w1.heap.size = bx at HX1 hbx ⊢
      go_loopg [9] 24 (fun g s9 wx => g ≤ 24 ∧ s9 = .int .i64 ((g : Int) - 1) ∧ Hid (leadM y.row 24 = leadM y.row g) ∧ Hid (InSpan w S rv wx) ∧ Hid (SBox wx bx y))
      case atStart => exact ⟨by omega, rfl, rfl, HIN1.out, HX1.out⟩
      case round =>
        obtain ⟨hg, rfl, HL, HIN, HX⟩ := hrel
        obtain ⟨x0, x1⟩ := HX.out.cell
        have hxl := HX.out.lt
        have hp := HIN.out.ptr
        have hsz := HIN.out.siz
        cases gk with
        | zero =>
          have hnone := HS2.out HL.out
          rw [show ((0 : Nat) : Int) - 1 = -1 from rfl]
          have HD2 := HD.out
          have HSN2 := HSN.out
          rw [hnone] at HD2 HSN2
          have HD3 := Lib.hid HD2
          have HSN3 := Lib.hid HSN2
          have c48 := HIN.out.sys.rel
          have f48 := HIN.out.sys.free 48
          have hrl : (casts S.rel).length ≤ 1000000 := by rw [casts_len]; have := hS.2.1; omega
          have hw0 : w.heap.size < wr.heap.size := by omega
          have hw1 : w.heap.size + 1 < wr.heap.size := by omega
          clear HD2 HSN2 HD HSN hnone
          go_wp2_with fail
          go_region_law (refine step_app rfl (.tmp 46) (.tmp 49) rfl (w.heap.size + 2) rv (casts S.rel) (by simp [Act.eval, Act.put]) (by first | exact HIN.out.mine.al _ | exact (HIN.out.mine.al _).drew | exact HIN.out.mine.drew.al _) (by simp; omega) hrl wr.heap.size 1 (y.of : Int) (by simp [Act.eval, Act.put]) (by go_simp) ?_; intro g4 cap4 w4 hm4 hg4 hat4 hlt4; have hI4 := InSpan.grown (S := S) (rv := rv) (by first | exact HIN.out.al _ | exact (HIN.out.al _).drew | exact HIN.out.drew.al _) hg4; have c48b := hI4.1.rel; have f48b := hI4.1.free 48; have hpb := hI4.2.1; clear hg4 hat4)
          all_goals
            go_wp2_with fail
            go_roundg go
            case rel => exact ⟨k + 1, _, _, by omega, by go_num, HSN3.out, InSpan.rel hI4 hm4, HD3⟩
            case measure => omega
        | succ g =>
          have e : ((g + 1 : Nat) : Int) - 1 = g := by omega
          rw [e]
          obtain ⟨hL1, hL2⟩ := leadM_next HL.out
          have HL1 := Lib.hid hL1
          have HL2 := Lib.hid hL2
          clear hL1 hL2 HL e
          go_wp2_with fail
          refine (HH.out _ _ _ hyok.1 (by omega)).mono ?_
          rintro e w2 ⟨rfl, hb2⟩
          have HIN2 := Lib.hid (HIN.out.call hb2)
          have HX2 := Lib.hid (HX.out.call hb2)
          clear x0 x1 hxl hp hsz HIN HX hb2
          cases hbit : y.row.testBit g
          · have HLg := Lib.hid (HL2.out hbit)
            clear hbit HL1 HL2
            go_wp2_with fail
            go_roundg g
            case rel => exact ⟨by omega, rfl, HLg, HIN2, HX2⟩
            case measure => omega
          · have hs := HS1.out g (HL1.out hbit)
            have HD2 := HD.out
            have HSN2 := HSN.out
            rw [hs] at HD2 HSN2
            have HD3 := Lib.hid HD2
            have HSN3 := Lib.hid HSN2
            have HBR : Hid (∀ w', InSpan w S rv w' → Calls Tryd.prog 72 #[.agg #[.int .i64 (y.row : Int), .int .i64 (y.of : Int)], .int .i64 (g : Int), .pointer (some ⟨w.heap.size + 1, 0, none⟩)] w' (fun e w'' => e = .returned (.tuple #[]) ∧ InSpan w ⟨bringM S.at_ y g, S.rel⟩ rv w'')) := fun w' h' =>
              (bt_bring S.at_ hS.1 w.heap.size (w.heap.size + 1) rv y hyok g (by omega) w' h'.sys h'.ptr (by omega) (by have := h'.siz; omega)).mono fun e w'' ⟨h1, h2, h3⟩ => ⟨h1, h'.bel.trans (h3.below (Nat.le_refl _) h'.bel.size), Nat.le_trans h'.siz h3.size, h2, h'.mine.beside h3 (by omega), h3.cell (by omega) h'.ptr⟩
            obtain ⟨x0, x1⟩ := HX2.out.cell
            have hxl := HX2.out.lt
            clear hbit HL1 HL2 hs HD2 HSN2 HD HSN
            go_wp2_with fail
            refine (HBR.out _ HIN2.out).mono ?_
            rintro e w3 ⟨rfl, h3⟩
            have HIN3 := Lib.hid h3
            clear h3 x0 x1 hxl
            go_wp2_with fail
            go_roundg go
            case rel => exact ⟨k + 1, _, rv, by omega, by go_num, HSN3.out, HIN3, HD3⟩
            case measure => omega
end Go.Proofs.YtpnancidgobehaaDoor
