
/- The reference's Parse. -/
import Derived.Test.YtcdmcndjbajhlaaGreatDoorTr
import Derived.Deep.CutBlock
import Derived.Deep.CutRange
set_option linter.all false
set_option maxRecDepth 100000
namespace Go.Proofs.YtcdmcndjbajhlaaGreatDoor
open Go.RowKit

def badV : Value := .tuple #[nul.v, .int .i64 4]
def fineR (s : ByteArray) (x : Nm) : Bool := decide (x.chk = 0) && eq5 x.least x && ((printT x).toList == s.toList)
def refV (s : ByteArray) : Value := match readingR s with
  | none => badV
  | some p => if fineR s (xR p) = true then .tuple #[(xR p).v, .int .i64 0] else badV
theorem fine_is {s : ByteArray} {x : Nm} : fineR s x = true ↔ IsText s x := by
  unfold fineR IsText
  rw [Bool.and_eq_true, Bool.and_eq_true, decide_eq_true_eq, eq5_iff, beq_iff_eq, Lib.toList_data, Lib.toList_data]
  constructor
  · rintro ⟨⟨h1, h2⟩, h3⟩; exact ⟨h1, h2, list_inj h3⟩
  · rintro ⟨h1, h2, h3⟩; exact ⟨⟨h1, h2⟩, by rw [h3]⟩
/-- Both read the same. -/
theorem refV_parse (s : ByteArray) : refV s = parseV s := by
  unfold refV
  cases hp : parseO s with
  | true =>
    have ht := parse_not hp
    obtain ⟨p, h1, h2⟩ := text_readR ht
    rw [h1, parse_yes hp]
    dsimp only
    rw [h2, if_pos (fine_is.2 ht)]
  | false =>
    rw [parse_no hp]
    cases hr : readingR s with
    | none => rfl
    | some p =>
      dsimp only
      rw [if_neg]
      · rfl
      · intro h
        have := (parse_is (fine_is.1 h)).1
        rw [hp] at this
        cases this
/-- The two blocks of the reference's Parse: the result, and the number that is read. -/
def InParse (w : World) (c : C4) (k : Int) (W : World) : Prop := Below w.heap.size w W ∧ Box W w.heap.size 23 nul ∧ Box W (w.heap.size + 1) 23 ⟨c.A, c.B, c.C, c.D, k⟩
theorem InParse.call {w W W' : World} {c : C4} {k : Int} (h : InParse w c k W) (hb : Below W.heap.size W W') : InParse w c k W' :=
  ⟨below_via hb h.1, h.2.1.below hb h.2.1.lt, h.2.2.below hb h.2.2.lt⟩
def InP2 (w : World) (x : Nm) (W : World) : Prop := Below w.heap.size w W ∧ Box W w.heap.size 23 nul ∧ Box W (w.heap.size + 1) 23 x
theorem InP2.call {w W W' : World} {x : Nm} (h : InP2 w x W) (hb : Below W.heap.size W W') : InP2 w x W' :=
  ⟨below_via hb h.1, h.2.1.below hb h.2.1.lt, h.2.2.below hb h.2.2.lt⟩
theorem inParse_new (w : World) : InParse w c40 0 ((w.alloc (.cells #[.int .i64 0, .int .i64 0, .int .i64 0, .int .i64 0, .int .i64 0] 23)).alloc (.cells #[.int .i64 0, .int .i64 0, .int .i64 0, .int .i64 0, .int .i64 0] 23)) := by
  refine ⟨(by repeat (first | with_reducible exact Below.refl _ _ | with_reducible refine below_al ?_ _ | with_reducible refine below_dN ?_ _ | with_reducible refine Below.drew ?_ | (with_reducible refine Below.setCell ?_ (by simp <;> omega) _) | (with_reducible refine below_via (by assumption) ?_))), box_al (box_new w 0 0 0 0 0 _) _, ?_⟩
  have h := box_new (w.alloc (.cells #[.int .i64 0, .int .i64 0, .int .i64 0, .int .i64 0, .int .i64 0] 23)) 0 0 0 0 0 23
  rw [World.size_alloc] at h
  exact h
theorem empty_toList {s : ByteArray} (h : s.size = 0) : s.toList = [] := by
  rw [Lib.toList_data]
  exact List.eq_nil_of_length_eq_zero (by simpa using h)
theorem full_toList {s : ByteArray} (h : 0 < s.size) : s.toList.isEmpty = false := by
  rw [Lib.toList_data]
  cases e : s.data.toList with
  | nil =>
    rw [Lib.size_eq, e] at h
    simp at h
  | cons c t => rfl
theorem start_is {s : ByteArray} (h : 0 < s.size) : startR s.data.toList = if s[0] = 40 then 1 else 0 := by
  have h' : 0 < s.data.toList.length := by simpa using h
  have e : s.data.toList = s[0] :: s.data.toList.drop 1 := by
    have := List.drop_eq_getElem_cons h'
    rw [List.drop_zero] at this
    exact this
  rw [e]
  show (if (s[0] == 40) = true then 1 else 0) = _
  by_cases hc : s[0] = 40 <;> simp [hc]

theorem byte_eq {c : UInt8} {n : Nat} (hn : n < 256) : ((c.toNat : Int) == (n : Int)) = (c == UInt8.ofNat n) := by
  rw [Bool.eq_iff_iff, beq_iff_eq, beq_iff_eq]
  constructor
  · intro h
    apply UInt8.toNat_inj.1
    rw [UInt8.toNat_ofNat']
    omega
  · intro h
    rw [h, UInt8.toNat_ofNat']
    omega
theorem start_or (l : List UInt8) : startR l = 0 ∨ startR l = 1 := by
  cases l with
  | nil => exact .inl rfl
  | cons c t =>
    show (if (c == 40) = true then 1 else 0) = 0 ∨ (if (c == 40) = true then 1 else 0) = 1
    split
    · exact .inr rfl
    · exact .inl rfl
/-- Two numbers are compared, the other way. -/
theorem neq_num {o : Oper} {a : Act} {s t : Operand} {x y : Nm} {b : Bool} {W : World} (ho : o.op = .binOp .neq 23 s t 23) (hs : a.eval s = x.v) (ht : a.eval t = y.v) (hb : (!eq5 x y) = b) : (execOp a.eval o).run Tryz.prog W = .ok (.value (.bool b)) W := by
  obtain ⟨dst, op, ty, pos, af, gd⟩ := o
  dsimp only at ho
  subst ho
  subst hb
  generalize a.eval = e at *
  simp [go_sem, hs, ht]
  unfold eq5
  by_cases h0 : x.A = y.A <;> by_cases h1 : x.B = y.B <;> by_cases h2 : x.C = y.C <;> by_cases h3 : x.D = y.D <;> by_cases h4 : x.K = y.K <;> simp [h0, h1, h2, h3, h4]
theorem neq_int {o : Oper} {a : Act} {s t : Operand} {p q : Int} {b : Bool} {T : TypeId} {W : World} (ho : o.op = .binOp .neq T s t T) (hT : Tryz.prog.underlying T = some (.int .i64)) (hs : a.eval s = .int .i64 p) (ht : a.eval t = .int .i64 q) (hb : (p != q) = b) :
    (execOp a.eval o).run Tryz.prog W = .ok (.value (.bool b)) W := by
  obtain ⟨dst, op, ty, pos, af, gd⟩ := o
  dsimp only at ho
  subst ho
  subst hb
  generalize a.eval = e at *
  simp [go_sem, hs, ht, hT]
  first | done | rfl
theorem neq_str {o : Oper} {a : Act} {s t : Operand} {p q : ByteArray} {b : Bool} {W : World} (ho : o.op = .binOp .neq 9 s t 9) (hs : a.eval s = .string p) (ht : a.eval t = .string q) (hb : (!(p.toList == q.toList)) = b) :
    (execOp a.eval o).run Tryz.prog W = .ok (.value (.bool b)) W := by
  obtain ⟨dst, op, ty, pos, af, gd⟩ := o
  dsimp only at ho
  subst ho
  subst hb
  generalize a.eval = e at *
  simp [go_sem, hs, ht]
  first | done | rfl
theorem drop_at {s : ByteArray} {a : Nat} (h : a < s.size) : s.data.toList.drop a = s[a] :: s.data.toList.drop (a + 1) := by
  have h' : a < s.data.toList.length := by simpa using h
  exact List.drop_eq_getElem_cons h'
theorem drop_end {s : ByteArray} {a : Nat} (h : ¬ a < s.size) : s.data.toList.drop a = [] := List.drop_eq_nil_of_le (by simpa using Nat.le_of_not_lt h)
theorem drop_len {s : ByteArray} {a : Nat} : (s.data.toList.drop a).length = s.size - a := by rw [List.length_drop, ← Lib.size_eq]
theorem sel_none {l : List UInt8} (h : Lib.hasPrefix l [119] = false) : selI l = 0 ∧ selR l = l := by
  have h1 : Lib.hasPrefix l [119, 51] = false := by
    cases l with
    | nil => rfl
    | cons c t =>
      have : c ≠ 119 := fun e => by subst e; simp [Lib.hasPrefix] at h
      exact pre_no _ _ this
  have h2 : Lib.hasPrefix l [119, 50] = false := by
    cases l with
    | nil => rfl
    | cons c t =>
      have : c ≠ 119 := fun e => by subst e; simp [Lib.hasPrefix] at h
      exact pre_no _ _ this
  unfold selI selR
  rw [h, h1, h2]
  exact ⟨rfl, rfl⟩
theorem head_119 {s : ByteArray} {a : Nat} (h : a < s.size) (hw : Lib.hasPrefix (s.data.toList.drop a) [119] = true) : s[a] = 119 := by
  rw [drop_at h] at hw
  rcases Decidable.em (s[a] = 119) with e | e
  · exact e
  · have : Lib.hasPrefix (s[a] :: s.data.toList.drop (a + 1)) [119] = false := pre_no _ _ e
    rw [this] at hw; cases hw
theorem sel_next {s : ByteArray} {a : Nat} (h : a < s.size) (h1 : a + 1 < s.size) (hw : Lib.hasPrefix (s.data.toList.drop a) [119] = true) :
    (s[a + 1] = 50 → selI (s.data.toList.drop a) = 2 ∧ selR (s.data.toList.drop a) = s.data.toList.drop (a + 2)) ∧
    (s[a + 1] = 51 → selI (s.data.toList.drop a) = 3 ∧ selR (s.data.toList.drop a) = s.data.toList.drop (a + 2)) ∧
    (s[a + 1] ≠ 50 → s[a + 1] ≠ 51 → selI (s.data.toList.drop a) = 1 ∧ selR (s.data.toList.drop a) = s.data.toList.drop (a + 1)) := by
  have e0 := head_119 h hw
  have e : s.data.toList.drop a = 119 :: s[a + 1] :: s.data.toList.drop (a + 2) := by rw [drop_at h, e0, drop_at h1]
  have e2 : s.data.toList.drop (a + 1) = s[a + 1] :: s.data.toList.drop (a + 2) := drop_at h1
  rw [e, e2]
  generalize s[a + 1] = c
  generalize s.data.toList.drop (a + 2) = t
  refine ⟨?_, ?_, ?_⟩
  · rintro rfl
    simp [selI, selR, Lib.hasPrefix, Lib.trimPrefix]
  · rintro rfl
    simp [selI, selR, Lib.hasPrefix, Lib.trimPrefix]
  · intro a1 a2
    have f1 := pre_no t [] a1
    have f2 := pre_no t [] a2
    simp [selI, selR, Lib.hasPrefix, Lib.trimPrefix, f1, f2]
theorem sel_last {s : ByteArray} {a : Nat} (h : a < s.size) (h1 : ¬ a + 1 < s.size) (hw : Lib.hasPrefix (s.data.toList.drop a) [119] = true) : selI (s.data.toList.drop a) = 1 ∧ selR (s.data.toList.drop a) = s.data.toList.drop (a + 1) := by
  have e0 := head_119 h hw
  rw [drop_at h, e0, drop_end h1]
  decide
theorem InParse.set {w W : World} {c : C4} (h : InParse w c 0 W) (i : Nat) (hi : i ≤ 3) (n : Int) : InParse w (c.set i n) 0 (W.setCell ⟨w.heap.size + 1, i, none⟩ (.int .i64 n)) := by
  refine ⟨h.1.setCell (Nat.le_succ _) _, h.2.1.other (by omega), ?_⟩
  have hk : i = 0 ∨ i = 1 ∨ i = 2 ∨ i = 3 := by omega
  rcases hk with rfl | rfl | rfl | rfl <;> exact heap_set h.2.2

set_option maxHeartbeats 8000000 in
theorem r_Parse (s : ByteArray) (w : World) (hs : s.size ≤ 4294967000) : Calls Tryz.prog 21 #[.string s] w (Gives (refV s) w) := by
  obtain ⟨R, hR⟩ : ∃ R, R = refV s := ⟨_, rfl⟩
  rw [← hR]
  have HR := Lib.hid hR
  clear hR
  have HN : Hid (∀ (a : Nat) w, a ≤ s.size → Calls Tryz.prog 64 #[.string s, .int .i64 a] w (Gives (.tuple #[.int .i64 (numR (s.data.toList.drop a) 0 a).1, .int .i64 (numR (s.data.toList.drop a) 0 a).2]) w)) := fun a w ha => r_number s a w (by omega) ha
  have HI := Lib.hid (inParse_new w)
  go_enter Tryz.func21, Tryz.ntmps21
  obtain ⟨W0, hW0⟩ : ∃ W0, W0 = ((w.alloc (.cells #[.int .i64 0, .int .i64 0, .int .i64 0, .int .i64 0, .int .i64 0] 23)).alloc (.cells #[.int .i64 0, .int .i64 0, .int .i64 0, .int .i64 0, .int .i64 0] 23)) := ⟨_, rfl⟩
  rw [← hW0] at HI
  go_upto_region 3 with fail
  rw [← hW0]
  clear hW0
  go_cut [17] from 11 to 17 (fun b wx => b = .bool (decide (startR s.data.toList = 1)) ∧ wx = W0)
  case first =>
    by_cases h0 : 0 < s.size
    · have h1 := start_is h0
      have h2 := full_toList h0
      by_cases hc : s[0] = 40
      · rw [if_pos hc] at h1
        have HS := Lib.hid h1
        have h3 : ((s[0].toNat : Int) == 40) = true := by rw [hc]; rfl
        clear h1 hc
        go_wp2_with fail
        go_meet
        exact ⟨by rw [HS.out]; rfl, rfl⟩
      · rw [if_neg hc] at h1
        have HS := Lib.hid h1
        have h3 : ((s[0].toNat : Int) == 40) = false := by
          rw [beq_eq_false_iff_ne]
          intro h
          exact hc (UInt8.toNat_inj.1 (by show s[0].toNat = 40; omega))
        clear h1 hc
        go_wp2_with fail
        go_meet
        exact ⟨by rw [HS.out]; rfl, rfl⟩
    · have h1 := empty_toList (s := s) (by omega)
      have h2 : startR s.data.toList = 0 := by rw [← Lib.toList_data, h1]; rfl
      have HS := Lib.hid h2
      clear h2
      go_wp2_with fail
      go_meet
      exact ⟨by rw [HS.out]; rfl, rfl⟩
  case rest =>
    obtain ⟨rfl, rfl⟩ := hcut
    go_upto_if 17 with fail
    rename World => W1
    go_cut [5] from 11 to 17 (fun v wx => v = .int .i64 ((startR s.data.toList : Nat) : Int) ∧ wx = W1)
    case first =>
      by_cases h1 : startR s.data.toList = 1
      · go_wp2_with fail
        go_meet
        exact ⟨by rw [h1]; rfl, rfl⟩
      · have h3 : startR s.data.toList = 0 := by
          have := start_or s.data.toList
          omega
        have h4 := Lib.hid h3
        clear h3
        go_wp2_with fail
        go_meet
        exact ⟨by rw [h4.out]; rfl, rfl⟩
    case rest =>
      obtain ⟨rfl, rfl⟩ := hcut
      rename World => W2
      have hsl : startR s.data.toList ≤ s.size := by
        by_cases h0 : 0 < s.size
        · rw [start_is h0]; split <;> omega
        · rw [← Lib.toList_data, empty_toList (s := s) (by omega)]; exact Nat.zero_le _
      have HA := Lib.hid hsl
      have HX : Hid (readingR s = rdR s.size (s.data.toList.drop (startR s.data.toList)) c40) := rfl
      generalize startR s.data.toList = a0 at *
      clear hsl
      go_wp2_with fail
      go_loopw [5] (fun v wr => ∃ (a f : Nat) (c : C4), a ≤ s.size ∧ v = .int .i64 a ∧ Hid (s.size - a ≤ f) ∧ Hid (readingR s = rdR f (s.data.toList.drop a) c) ∧ Hid (InParse w c 0 wr)) (fun v _ => s.size - (intOf v).toNat)
      case atStart => exact ⟨a0, s.size, c40, HA.out, rfl, Nat.sub_le _ _, HX.out, HI.out⟩
      case round =>
        obtain ⟨a, f, c, ha, rfl, HF, HD, HI⟩ := hrel
        clear HX HA
        go_upto_region 5 with fail
        go_cut [27] from 18 to 116 (fun b wx => b = .bool (!stopR (s.data.toList.drop a)) ∧ wx = wr)
        case first =>
          by_cases hlt : a < s.size
          · have h1 := drop_at hlt
            have h2 := byte_eq (c := s[a]) (n := 41) (by omega)
            have h3 : stopR (s.data.toList.drop a) = (s[a] == 41) := by rw [h1]; rfl
            have HS := Lib.hid h3
            clear h1 h3
            cases hc : (s[a] == 41) with
            | true =>
              have h5 : ((s[a].toNat : Int) == 41) = true := h2.trans hc
              have h6 : ((s[a].toNat : Int) != 41) = false := by rw [bne, h5]; rfl
              have HC := Lib.hid hc
              clear h2 hc
              go_wp2_with fail
              go_meet
              exact ⟨by rw [HS.out, HC.out]; rfl, rfl⟩
            | false =>
              have h5 : ((s[a].toNat : Int) == 41) = false := h2.trans hc
              have h6 : ((s[a].toNat : Int) != 41) = true := by rw [bne, h5]; rfl
              have HC := Lib.hid hc
              clear h2 hc
              go_wp2_with fail
              go_meet
              exact ⟨by rw [HS.out, HC.out]; rfl, rfl⟩
          · have h1 : stopR (s.data.toList.drop a) = true := by rw [drop_end hlt]; rfl
            have HS := Lib.hid h1
            clear h1
            go_wp2_with fail
            go_meet
            exact ⟨by rw [HS.out]; rfl, rfl⟩
        case rest =>
          obtain ⟨rfl, rfl⟩ := hcut
          rename World => wr
          cases hst : stopR (s.data.toList.drop a) with
          | true =>
            have HST := Lib.hid hst
            have hb : (!stopR (s.data.toList.drop a)) = false := by rw [hst]; rfl
            clear hst
            have hst2 := HST.out
            have hfin : readingR s = some (c, s.data.toList.drop a) := by
              rw [HD.out]
              cases f with
              | zero => rfl
              | succ f => rw [rdR, if_pos hst2]
            have hR2 : R = if fineR s ⟨c.A, c.B, c.C, c.D, kR (s.data.toList.drop a)⟩ = true then .tuple #[Nm.v ⟨c.A, c.B, c.C, c.D, kR (s.data.toList.drop a)⟩, .int .i64 0] else badV := by
              rw [HR.out]
              unfold refV
              rw [hfin]
              rfl
            have HR2 := Lib.hid hR2
            have hkl : kR (s.data.toList.drop a) = if a + 2 < s.size then (numR (s.data.toList.drop (a + 3)) 0 (a + 3)).1 else 0 := by
              unfold kR
              rw [drop_len, List.drop_drop]
              have e := numR_shift (s.data.toList.drop (a + 3)) 0 0 (a + 3)
              rw [Nat.zero_add] at e
              by_cases h : a + 2 < s.size
              · rw [if_pos (by omega), if_pos h, e]
              · rw [if_neg (by omega), if_neg h]
            have HKL := Lib.hid hkl
            generalize kR (s.data.toList.drop a) = K at *
            clear hst2 hfin hR2 hkl HD HF HR HST
            go_upto_if 121 with fail
            go_cut [121] from 18 to 129 (fun _ wx => InParse w c K wx)
            case first =>
              by_cases h : a + 2 < s.size
              · have h2 := HKL.out
                rw [if_pos h] at h2
                have HN3 := Lib.hid (HN.out (a + 3) · (by omega))
                rw [← h2] at HN3
                generalize (numR (s.data.toList.drop (a + 3)) 0 (a + 3)).2 = z at *
                have e3 : ((a + 3 : Nat) : Int) = (a : Int) + 3 := by omega
                rw [e3] at HN3
                clear h2 HKL e3
                go_wp2_with fail
                refine (HN3.out _).mono ?_
                rintro e w2 ⟨rfl, hb2⟩
                have h4 := HI.out.call hb2
                obtain ⟨x0, x1, x2, x3, x4⟩ := h4.2.2.cell
                obtain ⟨g0, g1, g2, g3, g4⟩ := h4.2.2.free
                have hlt := h4.2.2.lt
                have H4 := Lib.hid h4
                clear h4
                dsimp only at x0 x1 x2 x3 x4
                go_wp2_with fail
                go_meet
                exact ⟨H4.out.1.setCell (Nat.le_succ _) _, H4.out.2.1.other (by omega), heap_set H4.out.2.2⟩
              · have h2 := HKL.out
                rw [if_neg h] at h2
                subst h2
                go_wp2_with fail
                go_meet
                exact HI.out
            case rest =>
              rename World => W3
              go_upto_region 34 with fail
              obtain ⟨X, hX⟩ : ∃ X : Nm, X = ⟨c.A, c.B, c.C, c.D, K⟩ := ⟨_, rfl⟩
              have hP : InP2 w X W3 := by rw [hX]; exact hcut
              have HP := Lib.hid hP
              rw [← hX] at HR2
              clear hP hcut hX HKL HI
              have HCk : Hid (∀ w, Calls Tryz.prog 41 #[X.v] w (Gives (.int .i64 X.chk) w)) := fun w => r_check _ _ _ _ _ w
              by_cases h1 : X.chk = 0
              · have hXk := chk_in h1
                have HFm : Hid (∀ w, Calls Tryz.prog 63 #[X.v] w (Gives X.least.v w)) := fun w => r_form X w (right_wide h1) (by omega)
                cases h2 : eq5 X.least X with
                | false =>
                  have hr : R = badV := by
                    rw [HR2.out]
                    unfold fineR
                    rw [h2]
                    simp
                  have HRR := Lib.hid hr
                  have hn : (!eq5 X.least X) = true := by rw [h2]; rfl
                  rw [h1] at HCk
                  generalize X.least = r at *
                  clear hr h1 h2 HR2 hXk
                  refine region_fin (InP2 w X) 130 [X.v, .int .i64 0, .bool false, .bool false, X.v, r.v, X.v, .bool true, .bool true, .bool true, undef, undef, undef, undef, .bool true, undef, undef] 130 X.v (by as_aux_lemma => kernel_rfl) (by as_aux_lemma => kernel_rfl) (by as_aux_lemma => kernel_rfl) (outV_fin _ 15 (by as_aux_lemma => kernel_rfl) (Nat.le_of_ble_eq_true (by kernel_rfl)) (Nat.le_of_ble_eq_true (by kernel_rfl)) (by as_aux_lemma => kernel_rfl)) (HP.out.call (below_dN (Below.refl _ _) 1)) ?_ ?_
                  rotate_left
                  · refine eachOp_cons (ok_load (by kernel_rfl) (by kernel_rfl) (fun _ hC => load_num (b := w.heap.size + 1) (x := X) rfl (by kernel_rfl) hC.2.2)) ?_
                    refine eachOp_cons (ok_call 41 #[X.v] (by kernel_rfl) (by kernel_rfl) (fun _ => by kernel_rfl) (fun W hC => (HCk.out W).mono fun _ _ h => ⟨h.1, hC.call h.2⟩)) ?_
                    refine eachOp_cons (ok_val (by kernel_rfl) (by kernel_rfl) (fun _ => by kernel_rfl)) ?_
                    refine eachOp_cons (ok_val (by kernel_rfl) (by kernel_rfl) (fun _ => by kernel_rfl)) ?_
                    refine eachOp_cons (ok_load (by kernel_rfl) (by kernel_rfl) (fun _ hC => load_num (b := w.heap.size + 1) (x := X) rfl (by kernel_rfl) hC.2.2)) ?_
                    refine eachOp_cons (ok_call 63 #[X.v] (by kernel_rfl) (by kernel_rfl) (fun _ => by kernel_rfl) (fun W hC => (HFm.out W).mono fun _ _ h => ⟨h.1, hC.call h.2⟩)) ?_
                    refine eachOp_cons (ok_load (by kernel_rfl) (by kernel_rfl) (fun _ hC => load_num (b := w.heap.size + 1) (x := X) rfl (by kernel_rfl) hC.2.2)) ?_
                    refine eachOp_cons (ok_val (by kernel_rfl) (by kernel_rfl) (fun _ => neq_num (x := r) (y := X) rfl (by kernel_rfl) (by kernel_rfl) hn)) ?_
                    refine eachOp_cons (ok_val (by kernel_rfl) (by kernel_rfl) (fun _ => by kernel_rfl)) ?_
                    refine eachOp_cons (ok_val (by kernel_rfl) (by kernel_rfl) (fun _ => by kernel_rfl)) ?_
                    refine eachOp_cons (ok_skip (by kernel_rfl) (by kernel_rfl) (by kernel_rfl)) ?_
                    refine eachOp_cons (ok_skip (by kernel_rfl) (by kernel_rfl) (by kernel_rfl)) ?_
                    refine eachOp_cons (ok_skip (by kernel_rfl) (by kernel_rfl) (by kernel_rfl)) ?_
                    refine eachOp_cons (ok_skip (by kernel_rfl) (by kernel_rfl) (by kernel_rfl)) ?_
                    refine eachOp_cons (ok_val (by kernel_rfl) (by kernel_rfl) (fun _ => by kernel_rfl)) ?_
                    exact eachOp_nil
                  intro W hW
                  rename_i hK
                  refine hK _ _ ?_
                  have hw2 := hW.1
                  obtain ⟨x0, x1, x2, x3, x4⟩ := hW.2.2.cell
                  obtain ⟨z0, z1, z2, z3, z4⟩ := hW.2.1.cell
                  obtain ⟨g0, g1, g2, g3, g4⟩ := hW.2.1.free
                  have hltz := hW.2.1.lt
                  have hltx := hW.2.2.lt
                  clear hW HP hK
                  (try dsimp only at z0 z1 z2 z3 z4)
                  simp only [finA, List.take_succ_cons, List.take_zero, List.cons_append, List.nil_append, List.set_cons_succ, List.set_cons_zero]
                  go_wp2_with fail
                  rw [HRR.out]
                  exact bodyPost_ret (v := badV) (by simp [badV, results, Tryz.results21, go_sem, z0, z1, z2, z3, z4]) rfl ⟨rfl, by first | exact hw2 | exact ((((hw2.setCell (Nat.le_refl _) _).setCell (Nat.le_refl _) _).setCell (Nat.le_refl _) _).setCell (Nat.le_refl _) _).setCell (Nat.le_refl _) _⟩
                | true =>
                  have he : X.least = X := (eq5_iff _ _).1 h2
                  have HTx : Hid (∀ w, Calls Tryz.prog 62 #[X.v] w (Gives (.string (printT X)) w)) := fun w => r_text X w h1 (fun hz => by
                    unfold Nm.least at he
                    rw [if_pos hz] at he
                    rw [← he])
                  have hn : (!eq5 X X) = false := by rw [(eq5_iff X X).2 rfl]; rfl
                  rw [he] at HFm
                  cases h3 : (printT X).toList == s.toList with
                  | false =>
                    have hr : R = badV := by
                      rw [HR2.out]
                      unfold fineR
                      rw [h3]
                      simp
                    have HRR := Lib.hid hr
                    have hm : (!((printT X).toList == s.toList)) = true := by rw [h3]; rfl
                    rw [h1] at HCk
                    generalize printT X = T at *
                    clear hr h1 h2 h3 he HR2 hXk
                    refine region_fin (InP2 w X) 130 [X.v, .int .i64 0, .bool false, .bool false, X.v, X.v, X.v, .bool false, .bool false, .bool false, X.v, .string T, .string s, .bool true, .bool true, undef, undef] 130 X.v (by as_aux_lemma => kernel_rfl) (by as_aux_lemma => kernel_rfl) (by as_aux_lemma => kernel_rfl) (outV_fin _ 15 (by as_aux_lemma => kernel_rfl) (Nat.le_of_ble_eq_true (by kernel_rfl)) (Nat.le_of_ble_eq_true (by kernel_rfl)) (by as_aux_lemma => kernel_rfl)) (HP.out.call (below_dN (Below.refl _ _) 1)) ?_ ?_
                    rotate_left
                    · refine eachOp_cons (ok_load (by kernel_rfl) (by kernel_rfl) (fun _ hC => load_num (b := w.heap.size + 1) (x := X) rfl (by kernel_rfl) hC.2.2)) ?_
                      refine eachOp_cons (ok_call 41 #[X.v] (by kernel_rfl) (by kernel_rfl) (fun _ => by kernel_rfl) (fun W hC => (HCk.out W).mono fun _ _ h => ⟨h.1, hC.call h.2⟩)) ?_
                      refine eachOp_cons (ok_val (by kernel_rfl) (by kernel_rfl) (fun _ => by kernel_rfl)) ?_
                      refine eachOp_cons (ok_val (by kernel_rfl) (by kernel_rfl) (fun _ => by kernel_rfl)) ?_
                      refine eachOp_cons (ok_load (by kernel_rfl) (by kernel_rfl) (fun _ hC => load_num (b := w.heap.size + 1) (x := X) rfl (by kernel_rfl) hC.2.2)) ?_
                      refine eachOp_cons (ok_call 63 #[X.v] (by kernel_rfl) (by kernel_rfl) (fun _ => by kernel_rfl) (fun W hC => (HFm.out W).mono fun _ _ h => ⟨h.1, hC.call h.2⟩)) ?_
                      refine eachOp_cons (ok_load (by kernel_rfl) (by kernel_rfl) (fun _ hC => load_num (b := w.heap.size + 1) (x := X) rfl (by kernel_rfl) hC.2.2)) ?_
                      refine eachOp_cons (ok_val (by kernel_rfl) (by kernel_rfl) (fun _ => neq_num (x := X) (y := X) rfl (by kernel_rfl) (by kernel_rfl) hn)) ?_
                      refine eachOp_cons (ok_val (by kernel_rfl) (by kernel_rfl) (fun _ => by kernel_rfl)) ?_
                      refine eachOp_cons (ok_val (by kernel_rfl) (by kernel_rfl) (fun _ => by kernel_rfl)) ?_
                      refine eachOp_cons (ok_load (by kernel_rfl) (by kernel_rfl) (fun _ hC => load_num (b := w.heap.size + 1) (x := X) rfl (by kernel_rfl) hC.2.2)) ?_
                      refine eachOp_cons (ok_call 62 #[X.v] (by kernel_rfl) (by kernel_rfl) (fun _ => by kernel_rfl) (fun W hC => (HTx.out W).mono fun _ _ h => ⟨h.1, hC.call h.2⟩)) ?_
                      refine eachOp_cons (ok_val (by kernel_rfl) (by kernel_rfl) (fun _ => by kernel_rfl)) ?_
                      refine eachOp_cons (ok_val (by kernel_rfl) (by kernel_rfl) (fun _ => neq_str (p := T) (q := s) rfl (by kernel_rfl) (by kernel_rfl) hm)) ?_
                      refine eachOp_cons (ok_val (by kernel_rfl) (by kernel_rfl) (fun _ => by kernel_rfl)) ?_
                      exact eachOp_nil
                    intro W hW
                    rename_i hK
                    refine hK _ _ ?_
                    have hw2 := hW.1
                    obtain ⟨x0, x1, x2, x3, x4⟩ := hW.2.2.cell
                    obtain ⟨z0, z1, z2, z3, z4⟩ := hW.2.1.cell
                    obtain ⟨g0, g1, g2, g3, g4⟩ := hW.2.1.free
                    have hltz := hW.2.1.lt
                    have hltx := hW.2.2.lt
                    clear hW HP hK
                    (try dsimp only at z0 z1 z2 z3 z4)
                    simp only [finA, List.take_succ_cons, List.take_zero, List.cons_append, List.nil_append, List.set_cons_succ, List.set_cons_zero]
                    go_wp2_with fail
                    rw [HRR.out]
                    exact bodyPost_ret (v := badV) (by simp [badV, results, Tryz.results21, go_sem, z0, z1, z2, z3, z4]) rfl ⟨rfl, by first | exact hw2 | exact ((((hw2.setCell (Nat.le_refl _) _).setCell (Nat.le_refl _) _).setCell (Nat.le_refl _) _).setCell (Nat.le_refl _) _).setCell (Nat.le_refl _) _⟩
                  | true =>
                    have hr : R = .tuple #[X.v, .int .i64 0] := by
                      rw [HR2.out, if_pos]
                      unfold fineR
                      rw [h2, h3, decide_eq_true h1]
                      rfl
                    have HRR := Lib.hid hr
                    have hm : (!((printT X).toList == s.toList)) = false := by rw [h3]; rfl
                    rw [h1] at HCk
                    generalize printT X = T at *
                    clear hr h1 h2 h3 he HR2 hXk
                    refine region_fin (InP2 w X) 130 [X.v, .int .i64 0, .bool false, .bool false, X.v, X.v, X.v, .bool false, .bool false, .bool false, X.v, .string T, .string s, .bool false, .bool false, undef, undef] 130 X.v (by as_aux_lemma => kernel_rfl) (by as_aux_lemma => kernel_rfl) (by as_aux_lemma => kernel_rfl) (outV_fin _ 15 (by as_aux_lemma => kernel_rfl) (Nat.le_of_ble_eq_true (by kernel_rfl)) (Nat.le_of_ble_eq_true (by kernel_rfl)) (by as_aux_lemma => kernel_rfl)) (HP.out.call (below_dN (Below.refl _ _) 1)) ?_ ?_
                    rotate_left
                    · refine eachOp_cons (ok_load (by kernel_rfl) (by kernel_rfl) (fun _ hC => load_num (b := w.heap.size + 1) (x := X) rfl (by kernel_rfl) hC.2.2)) ?_
                      refine eachOp_cons (ok_call 41 #[X.v] (by kernel_rfl) (by kernel_rfl) (fun _ => by kernel_rfl) (fun W hC => (HCk.out W).mono fun _ _ h => ⟨h.1, hC.call h.2⟩)) ?_
                      refine eachOp_cons (ok_val (by kernel_rfl) (by kernel_rfl) (fun _ => by kernel_rfl)) ?_
                      refine eachOp_cons (ok_val (by kernel_rfl) (by kernel_rfl) (fun _ => by kernel_rfl)) ?_
                      refine eachOp_cons (ok_load (by kernel_rfl) (by kernel_rfl) (fun _ hC => load_num (b := w.heap.size + 1) (x := X) rfl (by kernel_rfl) hC.2.2)) ?_
                      refine eachOp_cons (ok_call 63 #[X.v] (by kernel_rfl) (by kernel_rfl) (fun _ => by kernel_rfl) (fun W hC => (HFm.out W).mono fun _ _ h => ⟨h.1, hC.call h.2⟩)) ?_
                      refine eachOp_cons (ok_load (by kernel_rfl) (by kernel_rfl) (fun _ hC => load_num (b := w.heap.size + 1) (x := X) rfl (by kernel_rfl) hC.2.2)) ?_
                      refine eachOp_cons (ok_val (by kernel_rfl) (by kernel_rfl) (fun _ => neq_num (x := X) (y := X) rfl (by kernel_rfl) (by kernel_rfl) hn)) ?_
                      refine eachOp_cons (ok_val (by kernel_rfl) (by kernel_rfl) (fun _ => by kernel_rfl)) ?_
                      refine eachOp_cons (ok_val (by kernel_rfl) (by kernel_rfl) (fun _ => by kernel_rfl)) ?_
                      refine eachOp_cons (ok_load (by kernel_rfl) (by kernel_rfl) (fun _ hC => load_num (b := w.heap.size + 1) (x := X) rfl (by kernel_rfl) hC.2.2)) ?_
                      refine eachOp_cons (ok_call 62 #[X.v] (by kernel_rfl) (by kernel_rfl) (fun _ => by kernel_rfl) (fun W hC => (HTx.out W).mono fun _ _ h => ⟨h.1, hC.call h.2⟩)) ?_
                      refine eachOp_cons (ok_val (by kernel_rfl) (by kernel_rfl) (fun _ => by kernel_rfl)) ?_
                      refine eachOp_cons (ok_val (by kernel_rfl) (by kernel_rfl) (fun _ => neq_str (p := T) (q := s) rfl (by kernel_rfl) (by kernel_rfl) hm)) ?_
                      refine eachOp_cons (ok_val (by kernel_rfl) (by kernel_rfl) (fun _ => by kernel_rfl)) ?_
                      exact eachOp_nil
                    intro W hW
                    rename_i hK
                    refine hK _ _ ?_
                    have hw2 := hW.1
                    obtain ⟨x0, x1, x2, x3, x4⟩ := hW.2.2.cell
                    obtain ⟨z0, z1, z2, z3, z4⟩ := hW.2.1.cell
                    obtain ⟨g0, g1, g2, g3, g4⟩ := hW.2.1.free
                    have hltz := hW.2.1.lt
                    have hltx := hW.2.2.lt
                    clear hW HP hK
                    (try dsimp only at z0 z1 z2 z3 z4)
                    simp only [finA, List.take_succ_cons, List.take_zero, List.cons_append, List.nil_append, List.set_cons_succ, List.set_cons_zero]
                    go_wp2_with fail
                    rw [HRR.out]
                    exact bodyPost_ret (v := .tuple #[X.v, .int .i64 0]) (by simp [results, Tryz.results21, go_sem, z0, z1, z2, z3, z4]) rfl ⟨rfl, by first | exact hw2 | exact ((((hw2.setCell (Nat.le_refl _) _).setCell (Nat.le_refl _) _).setCell (Nat.le_refl _) _).setCell (Nat.le_refl _) _).setCell (Nat.le_refl _) _⟩
              · have hr : R = badV := by
                  rw [HR2.out]
                  unfold fineR
                  rw [decide_eq_false h1]
                  simp
                have HRR := Lib.hid hr
                have hq : (X.chk != 0) = true := bne_iff_ne.2 h1
                generalize X.chk = q at *
                clear hr h1 HR2
                refine region_fin (InP2 w X) 130 [X.v, .int .i64 q, .bool true, .bool true, undef, undef, undef, undef, .bool true, .bool true, undef, undef, undef, undef, .bool true, undef, undef] 130 X.v (by as_aux_lemma => kernel_rfl) (by as_aux_lemma => kernel_rfl) (by as_aux_lemma => kernel_rfl) (outV_fin _ 15 (by as_aux_lemma => kernel_rfl) (Nat.le_of_ble_eq_true (by kernel_rfl)) (Nat.le_of_ble_eq_true (by kernel_rfl)) (by as_aux_lemma => kernel_rfl)) (HP.out.call (below_dN (Below.refl _ _) 1)) ?_ ?_
                rotate_left
                · refine eachOp_cons (ok_load (by kernel_rfl) (by kernel_rfl) (fun _ hC => load_num (b := w.heap.size + 1) (x := X) rfl (by kernel_rfl) hC.2.2)) ?_
                  refine eachOp_cons (ok_call 41 #[X.v] (by kernel_rfl) (by kernel_rfl) (fun _ => by kernel_rfl) (fun W hC => (HCk.out W).mono fun _ _ h => ⟨h.1, hC.call h.2⟩)) ?_
                  refine eachOp_cons (ok_val (by kernel_rfl) (by kernel_rfl) (fun _ => neq_int (p := q) (q := 0) rfl (by kernel_rfl) (by kernel_rfl) (by kernel_rfl) hq)) ?_
                  refine eachOp_cons (ok_val (by kernel_rfl) (by kernel_rfl) (fun _ => by kernel_rfl)) ?_
                  refine eachOp_cons (ok_skip (by kernel_rfl) (by kernel_rfl) (by kernel_rfl)) ?_
                  refine eachOp_cons (ok_skip (by kernel_rfl) (by kernel_rfl) (by kernel_rfl)) ?_
                  refine eachOp_cons (ok_skip (by kernel_rfl) (by kernel_rfl) (by kernel_rfl)) ?_
                  refine eachOp_cons (ok_skip (by kernel_rfl) (by kernel_rfl) (by kernel_rfl)) ?_
                  refine eachOp_cons (ok_val (by kernel_rfl) (by kernel_rfl) (fun _ => by kernel_rfl)) ?_
                  refine eachOp_cons (ok_val (by kernel_rfl) (by kernel_rfl) (fun _ => by kernel_rfl)) ?_
                  refine eachOp_cons (ok_skip (by kernel_rfl) (by kernel_rfl) (by kernel_rfl)) ?_
                  refine eachOp_cons (ok_skip (by kernel_rfl) (by kernel_rfl) (by kernel_rfl)) ?_
                  refine eachOp_cons (ok_skip (by kernel_rfl) (by kernel_rfl) (by kernel_rfl)) ?_
                  refine eachOp_cons (ok_skip (by kernel_rfl) (by kernel_rfl) (by kernel_rfl)) ?_
                  refine eachOp_cons (ok_val (by kernel_rfl) (by kernel_rfl) (fun _ => by kernel_rfl)) ?_
                  exact eachOp_nil
                intro W hW
                rename_i hK
                refine hK _ _ ?_
                have hw2 := hW.1
                obtain ⟨x0, x1, x2, x3, x4⟩ := hW.2.2.cell
                obtain ⟨z0, z1, z2, z3, z4⟩ := hW.2.1.cell
                obtain ⟨g0, g1, g2, g3, g4⟩ := hW.2.1.free
                have hltz := hW.2.1.lt
                have hltx := hW.2.2.lt
                clear hW HP hK
                (try dsimp only at z0 z1 z2 z3 z4)
                simp only [finA, List.take_succ_cons, List.take_zero, List.cons_append, List.nil_append, List.set_cons_succ, List.set_cons_zero]
                go_wp2_with fail
                rw [HRR.out]
                exact bodyPost_ret (v := badV) (by simp [badV, results, Tryz.results21, go_sem, z0, z1, z2, z3, z4]) rfl ⟨rfl, by first | exact hw2 | exact ((((hw2.setCell (Nat.le_refl _) _).setCell (Nat.le_refl _) _).setCell (Nat.le_refl _) _).setCell (Nat.le_refl _) _).setCell (Nat.le_refl _) _⟩
          | false =>
            have HST := Lib.hid hst
            have hb : (!stopR (s.data.toList.drop a)) = true := by rw [hst]; rfl
            have hlt : a < s.size := by
              rcases Nat.lt_or_ge a s.size with h | h
              · exact h
              · rw [drop_end (by omega)] at hst; cases hst
            clear hst
            have hda := drop_at hlt
            have hS3 : sgnR (s.data.toList.drop a) = (s[a] == 45) := by rw [hda]; rfl
            have hRs : restR (s.data.toList.drop a) = s.data.toList.drop (if (s[a] == 45 || s[a] == 43) = true then a + 1 else a) := by
              rw [hda]
              show (if (s[a] == 45 || s[a] == 43) = true then s.data.toList.drop (a + 1) else s[a] :: s.data.toList.drop (a + 1)) = _
              split
              · rfl
              · rw [hda]
            have HS3 := Lib.hid hS3
            obtain ⟨sv, hsv⟩ : ∃ sv : Int, sv = if sgnR (s.data.toList.drop a) = true then -1 else 1 := ⟨_, rfl⟩
            have HSV := Lib.hid hsv
            obtain ⟨a1, haa⟩ : ∃ a1 : Nat, a1 = if (s[a] == 45 || s[a] == 43) = true then a + 1 else a := ⟨_, rfl⟩
            rw [← haa] at hRs
            have HAA := Lib.hid haa
            have HRs := Lib.hid hRs
            clear hda hS3 hRs hsv haa
            go_upto_if 32 with fail
            go_cut [6] from 18 to 116 (fun v wx => v = .int .i64 sv ∧ wx = wr)
            case first =>
              have h2 := byte_eq (c := s[a]) (n := 45) (by omega)
              cases hc : (s[a] == 45) with
              | true =>
                have h5 : ((s[a].toNat : Int) == 45) = true := h2.trans hc
                have HC := Lib.hid hc
                clear h2 hc
                go_wp2_with fail
                go_meet
                exact ⟨by rw [HSV.out, HS3.out, HC.out]; rfl, rfl⟩
              | false =>
                have h5 : ((s[a].toNat : Int) == 45) = false := h2.trans hc
                have HC := Lib.hid hc
                clear h2 hc
                go_wp2_with fail
                go_meet
                exact ⟨by rw [HSV.out, HS3.out, HC.out]; rfl, rfl⟩
            case rest =>
              obtain ⟨rfl, rfl⟩ := hcut
              rename World => wr
              go_upto_region 9 with fail
              go_cut [42] from 18 to 116 (fun b wx => b = .bool (s[a] == 45 || s[a] == 43) ∧ wx = wr)
              case first =>
                have h2 := byte_eq (c := s[a]) (n := 45) (by omega)
                have h4 := byte_eq (c := s[a]) (n := 43) (by omega)
                cases hc : (s[a] == 45) with
                | true =>
                  have h5 : ((s[a].toNat : Int) == 45) = true := h2.trans hc
                  have HC := Lib.hid hc
                  clear h2 h4 hc
                  go_wp2_with fail
                  go_meet
                  exact ⟨by rw [HC.out]; rfl, rfl⟩
                | false =>
                  have h5 : ((s[a].toNat : Int) == 45) = false := h2.trans hc
                  have HC := Lib.hid hc
                  cases hd : (s[a] == 43) with
                  | true =>
                    have h6 : ((s[a].toNat : Int) == 43) = true := h4.trans hd
                    have HD2 := Lib.hid hd
                    clear h2 h4 hc hd
                    go_wp2_with fail
                    go_meet
                    exact ⟨by rw [HC.out, HD2.out]; rfl, rfl⟩
                  | false =>
                    have h6 : ((s[a].toNat : Int) == 43) = false := h4.trans hd
                    have HD2 := Lib.hid hd
                    clear h2 h4 hc hd
                    go_wp2_with fail
                    go_meet
                    exact ⟨by rw [HC.out, HD2.out]; rfl, rfl⟩
              case rest =>
                obtain ⟨rfl, rfl⟩ := hcut
                rename World => wr
                go_upto_if 42 with fail
                go_cut [5] from 18 to 116 (fun v wx => v = .int .i64 (a1 : Int) ∧ wx = wr)
                case first =>
                  cases hc : (s[a] == 45 || s[a] == 43) with
                  | true =>
                    have h1 := HAA.out
                    rw [if_pos hc] at h1
                    have H1 := Lib.hid h1
                    clear h1
                    go_wp2_with fail
                    go_meet
                    exact ⟨by rw [H1.out]; go_num, rfl⟩
                  | false =>
                    have h1 := HAA.out
                    rw [if_neg (by rw [hc]; simp)] at h1
                    have H1 := Lib.hid h1
                    clear h1
                    go_wp2_with fail
                    go_meet
                    exact ⟨by rw [H1.out], rfl⟩
                case rest =>
                  obtain ⟨rfl, rfl⟩ := hcut
                  rename World => wr
                  have ha1 : a ≤ a1 ∧ a1 ≤ s.size := by rw [HAA.out]; split <;> omega
                  obtain ⟨ha1, ha1s⟩ := ha1
                  clear HAA
                  have hdr : dR (s.data.toList.drop a) = numR (s.data.toList.drop a1) 0 0 := by unfold dR; rw [HRs.out]
                  have hsh := numR_shift (s.data.toList.drop a1) 0 0 a1
                  rw [Nat.zero_add, ← hdr] at hsh
                  have hdl := numR_len (s.data.toList.drop a1) 0 0
                  rw [← hdr, drop_len] at hdl
                  have hdv := numR_num (s.data.toList.drop a1) 0 0 (by omega) (by omega)
                  rw [← hdr] at hdv
                  have hbR : bR (s.data.toList.drop a) = s.data.toList.drop (a1 + (dR (s.data.toList.drop a)).2) := by unfold bR; rw [HRs.out, List.drop_drop]
                  have hnR : nR (s.data.toList.drop a) = if (dR (s.data.toList.drop a)).2 + a1 = a1 then 1 else (dR (s.data.toList.drop a)).1 := by
                    unfold nR
                    by_cases h : (dR (s.data.toList.drop a)).2 = 0
                    · rw [if_pos h, if_pos (by omega)]
                    · rw [if_neg h, if_neg (by omega)]
                  have HN1 := Lib.hid (HN.out a1 · ha1s)
                  rw [hsh] at HN1
                  rw [Nat.add_comm a1] at hbR
                  have hd2 : (dR (s.data.toList.drop a)).2 + a1 ≤ s.size := by omega
                  have hd1 : a1 ≤ (dR (s.data.toList.drop a)).2 + a1 := by omega
                  dsimp only at HN1
                  generalize (dR (s.data.toList.drop a)).2 + a1 = a2 at *
                  generalize (dR (s.data.toList.drop a)).1 = n0 at *
                  obtain ⟨hn0, hn1⟩ := hdv
                  have HBR := Lib.hid hbR
                  have HNR := Lib.hid hnR
                  clear hdr hsh hdl hbR hnR HRs
                  go_wp2_with fail
                  refine (HN1.out _).mono ?_
                  rintro e w2 ⟨rfl, hb2⟩
                  have HI2 := Lib.hid (HI.out.call hb2)
                  clear hb2 HI HN1
                  go_upto_if 53 with fail
                  go_cut [8] from 18 to 116 (fun v wx => v = .int .i64 (nR (s.data.toList.drop a)) ∧ wx = w2)
                  case first =>
                    by_cases h : a2 = a1
                    · have h5 : ((a2 : Int) == (a1 : Int)) = true := by rw [beq_iff_eq]; omega
                      have h6 := HNR.out
                      rw [if_pos h] at h6
                      have H6 := Lib.hid h6
                      clear h6 h
                      go_wp2_with fail
                      go_meet
                      exact ⟨by rw [H6.out], rfl⟩
                    · have h5 : ((a2 : Int) == (a1 : Int)) = false := by rw [beq_eq_false_iff_ne]; omega
                      have h6 := HNR.out
                      rw [if_neg h] at h6
                      have H6 := Lib.hid h6
                      clear h6
                      go_wp2_with fail
                      go_meet
                      exact ⟨by rw [H6.out], rfl⟩
                  case rest =>
                    obtain ⟨rfl, rfl⟩ := hcut
                    rename World => w2
                    have hnv : 0 ≤ nR (s.data.toList.drop a) ∧ nR (s.data.toList.drop a) ≤ 2147483648 := by
                      rw [HNR.out]; split <;> omega
                    have hvR : vR (s.data.toList.drop a) = sv * nR (s.data.toList.drop a) := by
                      rw [HSV.out]
                      unfold vR; split <;> omega
                    have hsv2 : sv = 1 ∨ sv = -1 := by rw [HSV.out]; split <;> simp
                    have HSV2 := Lib.hid hsv2
                    clear hsv2 HSV
                    have HVR := Lib.hid hvR
                    clear hvR HNR
                    generalize nR (s.data.toList.drop a) = n at *
                    obtain ⟨hnv0, hnv1⟩ := hnv
                    go_upto_region 16 with fail
                    go_cut [64] from 18 to 116 (fun b wx => b = .bool (Lib.hasPrefix (s.data.toList.drop a2) [119]) ∧ wx = w2)
                    case first =>
                      by_cases h2 : a2 < s.size
                      · have h3 := byte_eq (c := s[a2]) (n := 119) (by omega)
                        have h4 : Lib.hasPrefix (s.data.toList.drop a2) [119] = (s[a2] == 119) := by
                          rw [drop_at h2]
                          by_cases hc : s[a2] = 119
                          · rw [hc]; simp [Lib.hasPrefix]
                          · rw [beq_eq_false_iff_ne.2 hc]; exact pre_no _ _ hc
                        have H4 := Lib.hid h4
                        cases hc : (s[a2] == 119) with
                        | true =>
                          have h5 : ((s[a2].toNat : Int) == 119) = true := h3.trans hc
                          have HC := Lib.hid hc
                          clear h3 h4 hc
                          go_wp2_with fail
                          go_meet
                          exact ⟨by rw [H4.out, HC.out], rfl⟩
                        | false =>
                          have h5 : ((s[a2].toNat : Int) == 119) = false := h3.trans hc
                          have HC := Lib.hid hc
                          clear h3 h4 hc
                          go_wp2_with fail
                          go_meet
                          exact ⟨by rw [H4.out, HC.out], rfl⟩
                      · have h4 : Lib.hasPrefix (s.data.toList.drop a2) [119] = false := by rw [drop_end h2]; rfl
                        have H4 := Lib.hid h4
                        clear h4
                        go_wp2_with fail
                        go_meet
                        exact ⟨by rw [H4.out], rfl⟩
                    case rest =>
                      obtain ⟨rfl, rfl⟩ := hcut
                      rename World => w2
                      go_upto_if 64 with fail
                      go_cut [10, 5] from 18 to 116 (fun v u wx => v = .int .i64 ((selI (s.data.toList.drop a2) : Nat) : Int) ∧ (∃ a3 : Nat, u = .int .i64 a3 ∧ a3 ≤ s.size ∧ a2 ≤ a3 ∧ Hid (selR (s.data.toList.drop a2) = s.data.toList.drop a3)) ∧ wx = w2)
                      case first =>
                        cases hw : Lib.hasPrefix (s.data.toList.drop a2) [119] with
                        | false =>
                          have h5 := sel_none hw
                          have H5 := Lib.hid h5
                          clear h5
                          go_wp2_with fail
                          go_meet
                          exact ⟨by rw [H5.out.1]; rfl, ⟨a2, rfl, hd2, Nat.le_refl _, H5.out.2⟩, rfl⟩
                        | true =>
                          have h2 : a2 < s.size := by
                            rcases Nat.lt_or_ge a2 s.size with h | h
                            · exact h
                            · rw [drop_end (by omega)] at hw; cases hw
                          by_cases h7 : a2 + 1 < s.size
                          · have hs2 := sel_next h2 h7 hw
                            have h50 := byte_eq (c := s[a2 + 1]) (n := 50) (by omega)
                            have h51 := byte_eq (c := s[a2 + 1]) (n := 51) (by omega)
                            generalize hcc : s[a2 + 1] = cc at *
                            have hcv : ((s[a2 + 1].toNat : Nat) : Int) = cc.toNat := by rw [hcc]
                            cases h8 : (cc == 50) with
                            | true =>
                              have hx : cc = 50 := by simpa using h8
                              subst hx
                              have h9 : (s[a2 + 1].toNat : Int) = 50 := by rw [hcc]; rfl
                              have H5 := Lib.hid (hs2.1 rfl)
                              clear hs2 h50 h51 hcv h8 hw hcc
                              have hcb : ((s[a2 + 1].toNat : Int) == 50) = true := by rw [h9]; rfl
                              go_wp2_with fail
                              go_meet
                              exact ⟨by rw [H5.out.1]; rfl, ⟨a2 + 2, by go_num, by omega, by omega, H5.out.2⟩, rfl⟩
                            | false =>
                              have e50 : ((s[a2 + 1].toNat : Int) == 50) = false := by rw [hcc]; exact h50.trans h8
                              cases h9 : (cc == 51) with
                              | true =>
                                have hx : cc = 51 := by simpa using h9
                                subst hx
                                have h9 : (s[a2 + 1].toNat : Int) = 51 := by rw [hcc]; rfl
                                have H5 := Lib.hid (hs2.2.1 rfl)
                                clear hs2 h50 h51 hcv h8 hw hcc
                                have hcb : ((s[a2 + 1].toNat : Int) == 51) = true := by rw [h9]; rfl
                                go_wp2_with fail
                                go_meet
                                exact ⟨by rw [H5.out.1]; rfl, ⟨a2 + 2, by go_num, by omega, by omega, H5.out.2⟩, rfl⟩
                              | false =>
                                have e51 : ((s[a2 + 1].toNat : Int) == 51) = false := by rw [hcc]; exact h51.trans h9
                                have H5 := Lib.hid (hs2.2.2 (by simpa using h8) (by simpa using h9))
                                clear hs2 h50 h51 hcv h8 h9 hw hcc
                                go_wp2_with fail
                                go_meet
                                exact ⟨by rw [H5.out.1]; rfl, ⟨a2 + 1, by go_num, by omega, by omega, H5.out.2⟩, rfl⟩
                          · have h5 := sel_last h2 h7 hw
                            have H5 := Lib.hid h5
                            clear h5 hw
                            go_wp2_with fail
                            go_meet
                            exact ⟨by rw [H5.out.1]; rfl, ⟨a2 + 1, by go_num, by omega, by omega, H5.out.2⟩, rfl⟩
                      case rest =>
                        obtain ⟨rfl, ⟨a3, rfl, ha3, ha23, HSR⟩, rfl⟩ := hcut
                        rename World => w2
                        have hnx : nextR (s.data.toList.drop a) = s.data.toList.drop a3 := by unfold nextR; rw [HBR.out]; exact HSR.out
                        have hIe : selI (bR (s.data.toList.drop a)) = selI (s.data.toList.drop a2) := by rw [HBR.out]
                        have hI3 := selI_le (s.data.toList.drop a2)
                        have hstep : readingR s = if a3 = a then none else rdR (f - 1) (s.data.toList.drop a3) (c.set (selI (s.data.toList.drop a2)) (vR (s.data.toList.drop a))) := by
                          rw [HD.out]
                          have hf := HF.out
                          obtain ⟨f', rfl⟩ : ∃ f', f = f' + 1 := ⟨f - 1, by omega⟩
                          rw [rdR, if_neg (by rw [HST.out]; simp), hnx, hIe, drop_len, drop_len]
                          by_cases h : a3 = a
                          · rw [if_pos (by omega), if_pos h]
                          · rw [if_neg (by omega), if_neg h]; rfl
                        rw [HVR.out] at hstep
                        have HSTEP := Lib.hid hstep
                        clear hnx hIe hstep HSR HBR HVR HST HD HS3
                        obtain ⟨x0, x1, x2, x3, x4⟩ := HI2.out.2.2.cell
                        obtain ⟨y0, y1, y2, y3, y4⟩ := HI2.out.2.2.free
                        obtain ⟨z0, z1, z2, z3, z4⟩ := HI2.out.2.1.cell
                        obtain ⟨g0, g1, g2, g3, g4⟩ := HI2.out.2.1.free
                        have hltz := HI2.out.2.1.lt
                        have hltx := HI2.out.2.2.lt
                        have hw2 := HI2.out.1
                        dsimp only at x0 x1 x2 x3 x4 z0 z1 z2 z3 z4
                        by_cases h33 : a3 = a
                        · have hr : R = badV := by
                            rw [HR.out]
                            unfold refV
                            rw [HSTEP.out, if_pos h33]
                          have HRR := Lib.hid hr
                          have h5 : ((a3 : Int) == (a : Int)) = true := by rw [beq_iff_eq]; omega
                          clear hr HSTEP h33 HR
                          go_wp2_with fail
                          rw [HRR.out]
                          exact bodyPost_ret (v := badV) (by simp [badV, results, Tryz.results21, go_sem, z0, z1, z2, z3, z4]) rfl ⟨rfl, by first | exact hw2 | exact ((((hw2.setCell (Nat.le_refl _) _).setCell (Nat.le_refl _) _).setCell (Nat.le_refl _) _).setCell (Nat.le_refl _) _).setCell (Nat.le_refl _) _⟩
                        · have h5 : ((a3 : Int) == (a : Int)) = false := by rw [beq_eq_false_iff_ne]; omega
                          have hst3 := HSTEP.out
                          rw [if_neg h33] at hst3
                          have HST3 := Lib.hid hst3
                          clear hst3 HSTEP
                          have hI4 : selI (s.data.toList.drop a2) = 0 ∨ selI (s.data.toList.drop a2) = 1 ∨ selI (s.data.toList.drop a2) = 2 ∨ selI (s.data.toList.drop a2) = 3 := by omega
                          generalize selI (s.data.toList.drop a2) = q at *
                          clear hI3
                          have hwle : w.heap.size ≤ w.heap.size + 1 := Nat.le_succ _
                          rcases HSV2.out with rfl | rfl
                          · rcases hI4 with rfl | rfl | rfl | rfl
                            · have HSET := Lib.hid (HI2.out.set 0 (by omega) (n))
                              have HST4 : Hid (readingR s = rdR (f - 1) (s.data.toList.drop a3) (c.set 0 (n))) := by
                                have h := HST3.out
                                have e : (1 : Int) * n = n := by omega
                                rw [e] at h
                                exact h
                              clear HST3 HI2
                              go_wp2_with fail
                              go_roundw
                              case rel => exact ⟨a3, f - 1, c.set 0 (n), ha3, rfl, (by have := HF.out; show s.size - a3 ≤ f - 1; omega), HST4.out, HSET.out⟩
                              case measure => simp [intOf]; omega
                            · have HSET := Lib.hid (HI2.out.set 1 (by omega) (n))
                              have HST4 : Hid (readingR s = rdR (f - 1) (s.data.toList.drop a3) (c.set 1 (n))) := by
                                have h := HST3.out
                                have e : (1 : Int) * n = n := by omega
                                rw [e] at h
                                exact h
                              clear HST3 HI2
                              go_wp2_with fail
                              go_roundw
                              case rel => exact ⟨a3, f - 1, c.set 1 (n), ha3, rfl, (by have := HF.out; show s.size - a3 ≤ f - 1; omega), HST4.out, HSET.out⟩
                              case measure => simp [intOf]; omega
                            · have HSET := Lib.hid (HI2.out.set 2 (by omega) (n))
                              have HST4 : Hid (readingR s = rdR (f - 1) (s.data.toList.drop a3) (c.set 2 (n))) := by
                                have h := HST3.out
                                have e : (1 : Int) * n = n := by omega
                                rw [e] at h
                                exact h
                              clear HST3 HI2
                              go_wp2_with fail
                              go_roundw
                              case rel => exact ⟨a3, f - 1, c.set 2 (n), ha3, rfl, (by have := HF.out; show s.size - a3 ≤ f - 1; omega), HST4.out, HSET.out⟩
                              case measure => simp [intOf]; omega
                            · have HSET := Lib.hid (HI2.out.set 3 (by omega) (n))
                              have HST4 : Hid (readingR s = rdR (f - 1) (s.data.toList.drop a3) (c.set 3 (n))) := by
                                have h := HST3.out
                                have e : (1 : Int) * n = n := by omega
                                rw [e] at h
                                exact h
                              clear HST3 HI2
                              go_wp2_with fail
                              go_roundw
                              case rel => exact ⟨a3, f - 1, c.set 3 (n), ha3, rfl, (by have := HF.out; show s.size - a3 ≤ f - 1; omega), HST4.out, HSET.out⟩
                              case measure => simp [intOf]; omega
                          · rcases hI4 with rfl | rfl | rfl | rfl
                            · have HSET := Lib.hid (HI2.out.set 0 (by omega) (-n))
                              have HST4 : Hid (readingR s = rdR (f - 1) (s.data.toList.drop a3) (c.set 0 (-n))) := by
                                have h := HST3.out
                                have e : (-1 : Int) * n = -n := by omega
                                rw [e] at h
                                exact h
                              clear HST3 HI2
                              go_wp2_with fail
                              go_roundw
                              case rel => exact ⟨a3, f - 1, c.set 0 (-n), ha3, rfl, (by have := HF.out; show s.size - a3 ≤ f - 1; omega), HST4.out, HSET.out⟩
                              case measure => simp [intOf]; omega
                            · have HSET := Lib.hid (HI2.out.set 1 (by omega) (-n))
                              have HST4 : Hid (readingR s = rdR (f - 1) (s.data.toList.drop a3) (c.set 1 (-n))) := by
                                have h := HST3.out
                                have e : (-1 : Int) * n = -n := by omega
                                rw [e] at h
                                exact h
                              clear HST3 HI2
                              go_wp2_with fail
                              go_roundw
                              case rel => exact ⟨a3, f - 1, c.set 1 (-n), ha3, rfl, (by have := HF.out; show s.size - a3 ≤ f - 1; omega), HST4.out, HSET.out⟩
                              case measure => simp [intOf]; omega
                            · have HSET := Lib.hid (HI2.out.set 2 (by omega) (-n))
                              have HST4 : Hid (readingR s = rdR (f - 1) (s.data.toList.drop a3) (c.set 2 (-n))) := by
                                have h := HST3.out
                                have e : (-1 : Int) * n = -n := by omega
                                rw [e] at h
                                exact h
                              clear HST3 HI2
                              go_wp2_with fail
                              go_roundw
                              case rel => exact ⟨a3, f - 1, c.set 2 (-n), ha3, rfl, (by have := HF.out; show s.size - a3 ≤ f - 1; omega), HST4.out, HSET.out⟩
                              case measure => simp [intOf]; omega
                            · have HSET := Lib.hid (HI2.out.set 3 (by omega) (-n))
                              have HST4 : Hid (readingR s = rdR (f - 1) (s.data.toList.drop a3) (c.set 3 (-n))) := by
                                have h := HST3.out
                                have e : (-1 : Int) * n = -n := by omega
                                rw [e] at h
                                exact h
                              clear HST3 HI2
                              go_wp2_with fail
                              go_roundw
                              case rel => exact ⟨a3, f - 1, c.set 3 (-n), ha3, rfl, (by have := HF.out; show s.size - a3 ≤ f - 1; omega), HST4.out, HSET.out⟩
                              case measure => simp [intOf]; omega
end Go.Proofs.YtcdmcndjbajhlaaGreatDoor
