
/- The reading of a text's root, of one term. -/
import Derived.Test.YtjalpolciofphaaDoorRd
import Derived.Test.YtjalpolciofphaaDoorPt
set_option linter.all false
set_option maxRecDepth 100000
namespace Go.Proofs.YtjalpolciofphaaDoor
open Go.RowKit Go.Shelf

/-- The library's variable that Cut reads holds an integer. -/
def CutVar (w : World) : Prop := ∃ m, 2 < w.heap.size ∧ w.cell? ⟨2, 0, none⟩ = some (.int .i64 m)
theorem CutVar.below {w w' : World} (h : CutVar w) (hb : Below w.heap.size w w') : CutVar w' := by
  obtain ⟨m, h0, h1⟩ := h
  have := hb.size
  exact ⟨m, by omega, ((bcell hb).1 _ _ h0).trans h1⟩

def rootC (l : List UInt8) : List UInt8 × List UInt8 × Bool := Lib.cut (Lib.trimPrefix l [40]) [41, 47, 114]
def rootT (l : List UInt8) : List UInt8 := if Lib.hasPrefix l [40] = true then (rootC l).1 else l
def rootK (l : List UInt8) : Int := if Lib.hasPrefix l [40] = true then (rdN (rootC l).2.1 0 0).1 else 0
def rootO (l : List UInt8) : Bool := if Lib.hasPrefix l [40] = true then (rootC l).2.2 && decide ((rdN (rootC l).2.1 0 0).2 = (rootC l).2.1.length) else true
def rootV (l : List UInt8) : Value := .tuple #[.string ⟨(rootT l).toArray⟩, .int .i64 (rootK l), .bool (rootO l)]

theorem size_mk (l : List UInt8) : (⟨l.toArray⟩ : ByteArray).size = l.length := by simp [ByteArray.size]
theorem cutPrefix_is (s p : ByteArray) (b : Bool) (h : Lib.hasPrefix s.data.toList p.data.toList = b) (w : World) :
    Calls Tryd.prog 87 #[.string s, .string p] w fun e w' => e = .returned (.tuple #[.string ⟨(Lib.trimPrefix s.data.toList p.data.toList).toArray⟩, .bool b]) ∧ w' = w := by
  subst h
  exact Tryd.strings_CutPrefix s p w
theorem trim_len (l p : List UInt8) : (Lib.trimPrefix l p).length ≤ l.length := by
  unfold Lib.trimPrefix
  split
  · simp
  · exact Nat.le_refl _
theorem cut_len (l p : List UInt8) : (Lib.cut l p).1.length ≤ l.length ∧ (Lib.cut l p).2.1.length ≤ l.length := by
  unfold Lib.cut
  split
  · simp; omega
  · simp

set_option maxHeartbeats 2000000 in
theorem cutRoot_any (s : ByteArray) (w : World) (hs : s.size < 4294967281) (hv : CutVar w) :
    Calls Tryd.prog 75 #[.string s] w (Gives (rootV s.data.toList) w) := by
  have hsl : s.size = s.data.toList.length := Lib.size_eq s
  cases hp : Lib.hasPrefix s.data.toList [40] with
  | false =>
    have HP := Lib.hid (cutPrefix_is s { data := #[40] } false hp)
    have hr : rootV s.data.toList = .tuple #[.string s, .int .i64 0, .bool true] := by
      simp only [rootV, rootT, rootK, rootO, hp, Bool.false_eq_true, if_false]
    rw [hr]
    clear hr hv hsl
    go_enter Tryd.func75, Tryd.ntmps75
    go_wp2_with fail
    refine (HP.out _).mono ?_
    rintro e w' ⟨rfl, rfl⟩
    go_wp2_with fail
    go_ret3
    exact ⟨rfl, Below.refl _ _⟩
  | true =>
    have HP := Lib.hid (cutPrefix_is s { data := #[40] } true hp)
    have hl1 := trim_len s.data.toList [40]
    have hl2 := cut_len (Lib.trimPrefix s.data.toList [40]) [41, 47, 114]
    obtain ⟨m, hg, hm⟩ := hv
    have hc := Tryd.strings_Cut ⟨(Lib.trimPrefix s.data.toList [40]).toArray⟩ { data := #[41, 47, 114] } m w (by rw [size_mk]; omega) hm
    have hr : rootV s.data.toList = .tuple #[.string ⟨(rootC s.data.toList).1.toArray⟩, .int .i64 (rdN (rootC s.data.toList).2.1 0 0).1, .bool ((rootC s.data.toList).2.2 && decide ((rdN (rootC s.data.toList).2.1 0 0).2 = (rootC s.data.toList).2.1.length))] := by
      simp only [rootV, rootT, rootK, rootO, hp, if_true]
    rw [hr]
    have hc' : Calls Tryd.prog 88 #[.string ⟨(Lib.trimPrefix s.data.toList [40]).toArray⟩, .string { data := #[41, 47, 114] }] w fun e w' => e = .returned (.tuple #[.string ⟨(rootC s.data.toList).1.toArray⟩, .string ⟨(rootC s.data.toList).2.1.toArray⟩, .bool (rootC s.data.toList).2.2]) ∧ ∃ n, w' = w.drewN n := hc
    have hl3 : (rootC s.data.toList).2.1.length ≤ s.data.toList.length := Nat.le_trans hl2.2 hl1
    have HD : Hid (∀ w, Calls Tryd.prog 89 #[.string ⟨(rootC s.data.toList).2.1.toArray⟩] w (Gives (.tuple #[.int .i64 (rdN (rootC s.data.toList).2.1 0 0).1, .int .i64 (rdN (rootC s.data.toList).2.1 0 0).2]) w)) :=
      fun w => readDigits_any _ w (by rw [size_mk]; omega)
    have hl4 := rdN_len (rootC s.data.toList).2.1 0 0
    have hl5 := size_mk (rootC s.data.toList).2.1
    have HC := Lib.hid hc'
    have HP' : Hid (∀ w, Calls Tryd.prog 87 #[.string s, .string { data := #[40] }] w fun e w' => e = .returned (.tuple #[.string ⟨(Lib.trimPrefix s.data.toList [40]).toArray⟩, .bool true]) ∧ w' = w) := HP
    clear hc hc' hr hp hl2 hm hg HP
    generalize (⟨(Lib.trimPrefix s.data.toList [40]).toArray⟩ : ByteArray) = X at *
    generalize rdN (rootC s.data.toList).2.1 0 0 = dd at *
    generalize (⟨(rootC s.data.toList).2.1.toArray⟩ : ByteArray) = R at *
    generalize (⟨(rootC s.data.toList).1.toArray⟩ : ByteArray) = T at *
    generalize (rootC s.data.toList).2.2 = ok at *
    generalize (rootC s.data.toList).2.1.length = rl at *
    obtain ⟨n, len⟩ := dd
    dsimp only at *
    subst hl5
    cases ok with
    | false =>
      go_enter Tryd.func75, Tryd.ntmps75
      go_wp2_with fail
      refine (HP'.out _).mono ?_
      rintro e w' ⟨rfl, rfl⟩
      go_wp2_with fail
      refine HC.out.mono ?_
      rintro e w1 ⟨rfl, k, rfl⟩
      go_wp2_with fail
      refine (HD.out _).mono ?_
      rintro e w2 ⟨rfl, hb⟩
      go_wp2_with fail
      go_ret3
      exact ⟨rfl, below_via hb (below_dN (Below.refl _ _) _)⟩
    | true =>
      cases hq : decide (len = R.size)
      · have hq' : ((len : Int) == (R.size : Int)) = false := by
          rw [beq_eq_false_iff_ne]; have := of_decide_eq_false hq; omega
        go_enter Tryd.func75, Tryd.ntmps75
        go_wp2_with fail
        refine (HP'.out _).mono ?_
        rintro e w' ⟨rfl, rfl⟩
        go_wp2_with fail
        refine HC.out.mono ?_
        rintro e w1 ⟨rfl, k, rfl⟩
        go_wp2_with fail
        refine (HD.out _).mono ?_
        rintro e w2 ⟨rfl, hb⟩
        go_wp2_with fail
        go_ret3
        exact ⟨rfl, below_via hb (below_dN (Below.refl _ _) _)⟩
      · have hq' : ((len : Int) == (R.size : Int)) = true := by
          rw [beq_iff_eq]; have := of_decide_eq_true hq; omega
        go_enter Tryd.func75, Tryd.ntmps75
        go_wp2_with fail
        refine (HP'.out _).mono ?_
        rintro e w' ⟨rfl, rfl⟩
        go_wp2_with fail
        refine HC.out.mono ?_
        rintro e w1 ⟨rfl, k, rfl⟩
        go_wp2_with fail
        refine (HD.out _).mono ?_
        rintro e w2 ⟨rfl, hb⟩
        go_wp2_with fail
        go_ret3
        exact ⟨rfl, below_via hb (below_dN (Below.refl _ _) _)⟩

def tmMinus (l : List UInt8) : Bool := Lib.hasPrefix l [45]
def tmRest (l : List UInt8) : List UInt8 := if tmMinus l = true then Lib.trimPrefix l [45] else Lib.trimPrefix l [43]
def tmD (l : List UInt8) : Int × Nat := rdN (tmRest l) 0 0
def tmN (l : List UInt8) : Int := if tmMinus l = true then -(if (tmD l).2 = 0 then 1 else (tmD l).1) else (if (tmD l).2 = 0 then 1 else (tmD l).1)
def tmB (l : List UInt8) : List UInt8 := (tmRest l).drop (tmD l).2
def selI (b : List UInt8) : Nat := if Lib.hasPrefix b [119, 51] = true then 3 else if Lib.hasPrefix b [119, 50] = true then 2 else if Lib.hasPrefix b [119] = true then 1 else 0
def selR (b : List UInt8) : List UInt8 := if Lib.hasPrefix b [119, 51] = true then Lib.trimPrefix b [119, 51] else if Lib.hasPrefix b [119, 50] = true then Lib.trimPrefix b [119, 50] else if Lib.hasPrefix b [119] = true then Lib.trimPrefix b [119] else b
def termV (l : List UInt8) : Value := .tuple #[.int .i64 (selI (tmB l)), .int .i64 (tmN l), .string ⟨(selR (tmB l)).toArray⟩]

theorem tm_num (l : List UInt8) : -10737418249 ≤ tmN l ∧ tmN l ≤ 10737418249 := by
  have h := rdN_num (tmRest l) 0 0 (by omega) (by omega)
  unfold tmN tmD
  split <;> split <;> omega
theorem selR_len (b : List UInt8) : (selR b).length ≤ b.length := by
  unfold selR
  split
  · exact trim_len _ _
  · split
    · exact trim_len _ _
    · split
      · exact trim_len _ _
      · exact Nat.le_refl _
theorem tmRest_len (l : List UInt8) : (tmRest l).length ≤ l.length := by
  unfold tmRest
  split <;> exact trim_len _ _
theorem selI_le (b : List UInt8) : selI b ≤ 3 := by
  unfold selI; split
  · omega
  · split
    · omega
    · split <;> omega

/-- The search for the name, from the third on. -/
def SelAt (b : List UInt8) (k : Nat) : Prop := (k < 3 → Lib.hasPrefix b [119, 51] = false) ∧ (k < 2 → Lib.hasPrefix b [119, 50] = false) ∧ (k < 1 → Lib.hasPrefix b [119] = false)

theorem SelAt.three (b : List UInt8) : SelAt b 3 := ⟨by omega, by omega, by omega⟩
theorem selV_at {b : List UInt8} {k : Nat} {p : List UInt8} (h : SelAt b k) (hk : k = 3 ∧ p = [119, 51] ∨ k = 2 ∧ p = [119, 50] ∨ k = 1 ∧ p = [119]) (hp : Lib.hasPrefix b p = true) : selI b = k ∧ selR b = Lib.trimPrefix b p := by
  obtain ⟨h3, h2, h1⟩ := h
  unfold selI selR
  rcases hk with ⟨rfl, rfl⟩ | ⟨rfl, rfl⟩ | ⟨rfl, rfl⟩
  · rw [if_pos hp, if_pos hp]; exact ⟨rfl, rfl⟩
  · rw [h3 (by omega), hp]; simp
  · rw [h3 (by omega), h2 (by omega), hp]; simp
theorem selV_none {b : List UInt8} (h : SelAt b 0) : selI b = 0 ∧ selR b = b := by
  obtain ⟨h3, h2, h1⟩ := h
  unfold selI selR
  rw [h3 (by omega), h2 (by omega), h1 (by omega)]; simp

theorem trimPrefix_is (s p : ByteArray) (w : World) :
    Calls Tryd.prog 94 #[.string s, .string p] w fun e w' => e = .returned (.string ⟨(Lib.trimPrefix s.data.toList p.data.toList).toArray⟩) ∧ w' = w := Tryd.strings_TrimPrefix s p w

set_option maxHeartbeats 4000000 in
theorem readTerm_any (s : ByteArray) (w : World) (hs : s.size < 4294967281) (hN : NamesAre w) :
    Calls Tryd.prog 90 #[.string s] w (Gives (termV s.data.toList) w) := by
  have hsl : s.size = s.data.toList.length := Lib.size_eq s
  have hl1 := tmRest_len s.data.toList
  have hl2 := rdN_len (tmRest s.data.toList) 0 0
  have hl3 := rdN_num (tmRest s.data.toList) 0 0 (by omega) (by omega)
  have hv : termV s.data.toList = .tuple #[.int .i64 (selI (tmB s.data.toList)), .int .i64 (tmN s.data.toList), .string ⟨(selR (tmB s.data.toList)).toArray⟩] := rfl
  have hn : tmN s.data.toList = if tmMinus s.data.toList = true then -(if (tmD s.data.toList).2 = 0 then 1 else (tmD s.data.toList).1) else (if (tmD s.data.toList).2 = 0 then 1 else (tmD s.data.toList).1) := rfl
  have hb : tmB s.data.toList = (tmRest s.data.toList).drop (tmD s.data.toList).2 := rfl
  have hD : ∀ w, Calls Tryd.prog 89 #[.string ⟨(tmRest s.data.toList).toArray⟩] w (Gives (.tuple #[.int .i64 (tmD s.data.toList).1, .int .i64 (tmD s.data.toList).2]) w) :=
    fun w => readDigits_any _ w (by rw [size_mk]; omega)
  change 0 ≤ (tmD s.data.toList).2 ∧ (tmD s.data.toList).2 ≤ 0 + (tmRest s.data.toList).length at hl2
  change 0 ≤ (tmD s.data.toList).1 ∧ (tmD s.data.toList).1 ≤ 10737418249 at hl3
  obtain ⟨hN0, m0, m1, m2, m3⟩ := hN
  dsimp only [nameB] at m0 m1 m2 m3
  cases hp : tmMinus s.data.toList with
  | true =>
    have HP : Hid (∀ w, Calls Tryd.prog 87 #[.string s, .string { data := #[45] }] w fun e w' => e = .returned (.tuple #[.string ⟨(tmRest s.data.toList).toArray⟩, .bool true]) ∧ w' = w) := by
      have h := cutPrefix_is s { data := #[45] } true hp
      have e1 : tmRest s.data.toList = Lib.trimPrefix s.data.toList [45] := by unfold tmRest; rw [if_pos hp]
      rw [e1]
      exact h
    rw [hp, if_pos rfl] at hn
    generalize tmB s.data.toList = B at *
    generalize tmN s.data.toList = N at *
    generalize tmD s.data.toList = dd at *
    have hrs := size_mk (tmRest s.data.toList)
    have hrd : (⟨(tmRest s.data.toList).toArray⟩ : ByteArray).data.toList = tmRest s.data.toList := rfl
    generalize (⟨(tmRest s.data.toList).toArray⟩ : ByteArray) = R at *
    rw [← hrd] at hb
    generalize tmRest s.data.toList = RL at *
    have HD := Lib.hid hD
    obtain ⟨n, len⟩ := dd
    dsimp only at *
    rw [hv]
    clear hD hv hp
    have hb1 : 0 ≤ n := by omega
    have hb2 : n ≤ 10737418249 := by omega
    have hb3 : len ≤ R.size := by omega
    have HB := Lib.hid hb
    have hrs' : R.size < 4294967281 := by omega
    clear hl1 hl2 hl3 hsl hrs hrd hb
    by_cases hz : len = 0
    · subst hz
      rw [if_pos rfl] at hn
      have HNN := Lib.hid hn
      clear hn
      go_enter Tryd.func90, Tryd.ntmps90
      go_wp2_with fail
      refine (HP.out _).mono ?_
      rintro e w' ⟨rfl, rfl⟩
      go_wp2_with fail
      refine (HD.out _).mono ?_
      rintro e w1 ⟨rfl, hbw⟩
      go_wp2_with fail
      obtain ⟨Y, hY⟩ : ∃ Y, Y = R := ⟨_, rfl⟩
      rw [← hY]
      have HY : Hid (Y.data.toList = B) := by rw [hY, HB.out]; rfl
      have HYB : Hid (Y = ⟨B.toArray⟩) := by rw [← HY.out]; rfl
      clear hY
      have q1 := ((bcell hbw).1 _ _ hN0).trans m1
      have q2 := ((bcell hbw).1 _ _ hN0).trans m2
      have q3 := ((bcell hbw).1 _ _ hN0).trans m3
      go_loop [9] (fun i => ∃ k : Nat, k ≤ 3 ∧ i = .int .i64 k ∧ SelAt B k) (fun i => (intOf i).toNat)
      case atStart => exact ⟨3, by omega, rfl, SelAt.three B⟩
      case round =>
        obtain ⟨k, hk, rfl, hsel⟩ := hrel
        have hk4 : k = 0 ∨ k = 1 ∨ k = 2 ∨ k = 3 := by omega
        rcases hk4 with rfl | rfl | rfl | rfl
        · have hfin := selV_none hsel
          have HF := Lib.hid hfin
          clear hfin
          go_wp2
          go_ret3
          rw [HF.out.1, HF.out.2, HNN.out]
          exact ⟨by rw [HYB.out]; rfl, hbw⟩
        · cases hpp : Lib.hasPrefix B [119] with
          | true =>
            have HC : Hid (∀ w, Calls Tryd.prog 87 #[.string Y, .string { data := #[119] }] w fun e w' => e = .returned (.tuple #[.string ⟨(Lib.trimPrefix B [119]).toArray⟩, .bool true]) ∧ w' = w) := by
              have h := cutPrefix_is Y { data := #[119] } true (by rw [HY.out]; exact hpp)
              rw [HY.out] at h
              exact h
            have hfin := selV_at hsel (.inr (.inr ⟨rfl, rfl⟩)) hpp
            have HF := Lib.hid hfin
            clear hfin
            go_wp2_with (go_at_call 87; (with_reducible refine (HC.out _).mono ?_); rintro e w2 ⟨rfl, rfl⟩)
            go_ret3
            rw [HF.out.1, HF.out.2, HNN.out]
            exact ⟨rfl, hbw⟩
          | false =>
            have HC : Hid (∀ w, Calls Tryd.prog 87 #[.string Y, .string { data := #[119] }] w fun e w' => e = .returned (.tuple #[.string ⟨(Lib.trimPrefix B [119]).toArray⟩, .bool false]) ∧ w' = w) := by
              have h := cutPrefix_is Y { data := #[119] } false (by rw [HY.out]; exact hpp)
              rw [HY.out] at h
              exact h
            go_wp2_with (go_at_call 87; (with_reducible refine (HC.out _).mono ?_); rintro e w2 ⟨rfl, rfl⟩)
            go_round
            case rel => exact ⟨0, by omega, by go_num, fun _ => hsel.1 (by omega), fun _ => hsel.2.1 (by omega), fun _ => hpp⟩
            case measure => simp [intOf]
        · cases hpp : Lib.hasPrefix B [119, 50] with
          | true =>
            have HC : Hid (∀ w, Calls Tryd.prog 87 #[.string Y, .string { data := #[119, 50] }] w fun e w' => e = .returned (.tuple #[.string ⟨(Lib.trimPrefix B [119, 50]).toArray⟩, .bool true]) ∧ w' = w) := by
              have h := cutPrefix_is Y { data := #[119, 50] } true (by rw [HY.out]; exact hpp)
              rw [HY.out] at h
              exact h
            have hfin := selV_at hsel (.inr (.inl ⟨rfl, rfl⟩)) hpp
            have HF := Lib.hid hfin
            clear hfin
            go_wp2_with (go_at_call 87; (with_reducible refine (HC.out _).mono ?_); rintro e w2 ⟨rfl, rfl⟩)
            go_ret3
            rw [HF.out.1, HF.out.2, HNN.out]
            exact ⟨rfl, hbw⟩
          | false =>
            have HC : Hid (∀ w, Calls Tryd.prog 87 #[.string Y, .string { data := #[119, 50] }] w fun e w' => e = .returned (.tuple #[.string ⟨(Lib.trimPrefix B [119, 50]).toArray⟩, .bool false]) ∧ w' = w) := by
              have h := cutPrefix_is Y { data := #[119, 50] } false (by rw [HY.out]; exact hpp)
              rw [HY.out] at h
              exact h
            go_wp2_with (go_at_call 87; (with_reducible refine (HC.out _).mono ?_); rintro e w2 ⟨rfl, rfl⟩)
            go_round
            case rel => exact ⟨1, by omega, by go_num, fun _ => hsel.1 (by omega), fun _ => hpp, fun h => absurd h (by omega)⟩
            case measure => simp [intOf]
        · cases hpp : Lib.hasPrefix B [119, 51] with
          | true =>
            have HC : Hid (∀ w, Calls Tryd.prog 87 #[.string Y, .string { data := #[119, 51] }] w fun e w' => e = .returned (.tuple #[.string ⟨(Lib.trimPrefix B [119, 51]).toArray⟩, .bool true]) ∧ w' = w) := by
              have h := cutPrefix_is Y { data := #[119, 51] } true (by rw [HY.out]; exact hpp)
              rw [HY.out] at h
              exact h
            have hfin := selV_at hsel (.inl ⟨rfl, rfl⟩) hpp
            have HF := Lib.hid hfin
            clear hfin
            go_wp2_with (go_at_call 87; (with_reducible refine (HC.out _).mono ?_); rintro e w2 ⟨rfl, rfl⟩)
            go_ret3
            rw [HF.out.1, HF.out.2, HNN.out]
            exact ⟨rfl, hbw⟩
          | false =>
            have HC : Hid (∀ w, Calls Tryd.prog 87 #[.string Y, .string { data := #[119, 51] }] w fun e w' => e = .returned (.tuple #[.string ⟨(Lib.trimPrefix B [119, 51]).toArray⟩, .bool false]) ∧ w' = w) := by
              have h := cutPrefix_is Y { data := #[119, 51] } false (by rw [HY.out]; exact hpp)
              rw [HY.out] at h
              exact h
            go_wp2_with (go_at_call 87; (with_reducible refine (HC.out _).mono ?_); rintro e w2 ⟨rfl, rfl⟩)
            go_round
            case rel => exact ⟨2, by omega, by go_num, fun _ => hpp, fun h => absurd h (by omega), fun h => absurd h (by omega)⟩
            case measure => simp [intOf]
    · have hz' : ((len : Int) == 0) = false := by rw [beq_eq_false_iff_ne]; omega
      rw [if_neg hz] at hn
      have HNN := Lib.hid hn
      clear hn hz
      go_enter Tryd.func90, Tryd.ntmps90
      go_wp2_with fail
      refine (HP.out _).mono ?_
      rintro e w' ⟨rfl, rfl⟩
      go_wp2_with fail
      refine (HD.out _).mono ?_
      rintro e w1 ⟨rfl, hbw⟩
      go_wp2_with fail
      obtain ⟨Y, hY⟩ : ∃ Y, Y = R.extract len R.size := ⟨_, rfl⟩
      rw [← hY]
      have hY1 : Y.data.toList = B := by
        rw [hY, Lib.extract_data, HB.out]
        exact List.take_of_length_le (by rw [List.length_drop, ← Lib.size_eq]; exact Nat.le_refl _)
      have HY := Lib.hid hY1
      clear hY1
      have HYB : Hid (Y = ⟨B.toArray⟩) := by rw [← HY.out]; rfl
      clear hY
      have q1 := ((bcell hbw).1 _ _ hN0).trans m1
      have q2 := ((bcell hbw).1 _ _ hN0).trans m2
      have q3 := ((bcell hbw).1 _ _ hN0).trans m3
      go_loop [9] (fun i => ∃ k : Nat, k ≤ 3 ∧ i = .int .i64 k ∧ SelAt B k) (fun i => (intOf i).toNat)
      case atStart => exact ⟨3, by omega, rfl, SelAt.three B⟩
      case round =>
        obtain ⟨k, hk, rfl, hsel⟩ := hrel
        have hk4 : k = 0 ∨ k = 1 ∨ k = 2 ∨ k = 3 := by omega
        rcases hk4 with rfl | rfl | rfl | rfl
        · have hfin := selV_none hsel
          have HF := Lib.hid hfin
          clear hfin
          go_wp2
          go_ret3
          rw [HF.out.1, HF.out.2, HNN.out]
          exact ⟨by rw [HYB.out]; rfl, hbw⟩
        · cases hpp : Lib.hasPrefix B [119] with
          | true =>
            have HC : Hid (∀ w, Calls Tryd.prog 87 #[.string Y, .string { data := #[119] }] w fun e w' => e = .returned (.tuple #[.string ⟨(Lib.trimPrefix B [119]).toArray⟩, .bool true]) ∧ w' = w) := by
              have h := cutPrefix_is Y { data := #[119] } true (by rw [HY.out]; exact hpp)
              rw [HY.out] at h
              exact h
            have hfin := selV_at hsel (.inr (.inr ⟨rfl, rfl⟩)) hpp
            have HF := Lib.hid hfin
            clear hfin
            go_wp2_with (go_at_call 87; (with_reducible refine (HC.out _).mono ?_); rintro e w2 ⟨rfl, rfl⟩)
            go_ret3
            rw [HF.out.1, HF.out.2, HNN.out]
            exact ⟨rfl, hbw⟩
          | false =>
            have HC : Hid (∀ w, Calls Tryd.prog 87 #[.string Y, .string { data := #[119] }] w fun e w' => e = .returned (.tuple #[.string ⟨(Lib.trimPrefix B [119]).toArray⟩, .bool false]) ∧ w' = w) := by
              have h := cutPrefix_is Y { data := #[119] } false (by rw [HY.out]; exact hpp)
              rw [HY.out] at h
              exact h
            go_wp2_with (go_at_call 87; (with_reducible refine (HC.out _).mono ?_); rintro e w2 ⟨rfl, rfl⟩)
            go_round
            case rel => exact ⟨0, by omega, by go_num, fun _ => hsel.1 (by omega), fun _ => hsel.2.1 (by omega), fun _ => hpp⟩
            case measure => simp [intOf]
        · cases hpp : Lib.hasPrefix B [119, 50] with
          | true =>
            have HC : Hid (∀ w, Calls Tryd.prog 87 #[.string Y, .string { data := #[119, 50] }] w fun e w' => e = .returned (.tuple #[.string ⟨(Lib.trimPrefix B [119, 50]).toArray⟩, .bool true]) ∧ w' = w) := by
              have h := cutPrefix_is Y { data := #[119, 50] } true (by rw [HY.out]; exact hpp)
              rw [HY.out] at h
              exact h
            have hfin := selV_at hsel (.inr (.inl ⟨rfl, rfl⟩)) hpp
            have HF := Lib.hid hfin
            clear hfin
            go_wp2_with (go_at_call 87; (with_reducible refine (HC.out _).mono ?_); rintro e w2 ⟨rfl, rfl⟩)
            go_ret3
            rw [HF.out.1, HF.out.2, HNN.out]
            exact ⟨rfl, hbw⟩
          | false =>
            have HC : Hid (∀ w, Calls Tryd.prog 87 #[.string Y, .string { data := #[119, 50] }] w fun e w' => e = .returned (.tuple #[.string ⟨(Lib.trimPrefix B [119, 50]).toArray⟩, .bool false]) ∧ w' = w) := by
              have h := cutPrefix_is Y { data := #[119, 50] } false (by rw [HY.out]; exact hpp)
              rw [HY.out] at h
              exact h
            go_wp2_with (go_at_call 87; (with_reducible refine (HC.out _).mono ?_); rintro e w2 ⟨rfl, rfl⟩)
            go_round
            case rel => exact ⟨1, by omega, by go_num, fun _ => hsel.1 (by omega), fun _ => hpp, fun h => absurd h (by omega)⟩
            case measure => simp [intOf]
        · cases hpp : Lib.hasPrefix B [119, 51] with
          | true =>
            have HC : Hid (∀ w, Calls Tryd.prog 87 #[.string Y, .string { data := #[119, 51] }] w fun e w' => e = .returned (.tuple #[.string ⟨(Lib.trimPrefix B [119, 51]).toArray⟩, .bool true]) ∧ w' = w) := by
              have h := cutPrefix_is Y { data := #[119, 51] } true (by rw [HY.out]; exact hpp)
              rw [HY.out] at h
              exact h
            have hfin := selV_at hsel (.inl ⟨rfl, rfl⟩) hpp
            have HF := Lib.hid hfin
            clear hfin
            go_wp2_with (go_at_call 87; (with_reducible refine (HC.out _).mono ?_); rintro e w2 ⟨rfl, rfl⟩)
            go_ret3
            rw [HF.out.1, HF.out.2, HNN.out]
            exact ⟨rfl, hbw⟩
          | false =>
            have HC : Hid (∀ w, Calls Tryd.prog 87 #[.string Y, .string { data := #[119, 51] }] w fun e w' => e = .returned (.tuple #[.string ⟨(Lib.trimPrefix B [119, 51]).toArray⟩, .bool false]) ∧ w' = w) := by
              have h := cutPrefix_is Y { data := #[119, 51] } false (by rw [HY.out]; exact hpp)
              rw [HY.out] at h
              exact h
            go_wp2_with (go_at_call 87; (with_reducible refine (HC.out _).mono ?_); rintro e w2 ⟨rfl, rfl⟩)
            go_round
            case rel => exact ⟨2, by omega, by go_num, fun _ => hpp, fun h => absurd h (by omega), fun h => absurd h (by omega)⟩
            case measure => simp [intOf]
  | false =>
    have HP : Hid (∀ w, Calls Tryd.prog 87 #[.string s, .string { data := #[45] }] w fun e w' => e = .returned (.tuple #[.string ⟨(Lib.trimPrefix s.data.toList [45]).toArray⟩, .bool false]) ∧ w' = w) :=
      cutPrefix_is s { data := #[45] } false hp
    have HT : Hid (∀ w, Calls Tryd.prog 94 #[.string s, .string { data := #[43] }] w fun e w' => e = .returned (.string ⟨(tmRest s.data.toList).toArray⟩) ∧ w' = w) := by
      have h := trimPrefix_is s { data := #[43] }
      have e1 : tmRest s.data.toList = Lib.trimPrefix s.data.toList [43] := by unfold tmRest; rw [hp, if_neg (by simp)]
      rw [e1]
      exact h
    rw [hp, if_neg (by simp)] at hn
    generalize (⟨(Lib.trimPrefix s.data.toList [45]).toArray⟩ : ByteArray) = Z at *
    generalize tmB s.data.toList = B at *
    generalize tmN s.data.toList = N at *
    generalize tmD s.data.toList = dd at *
    have hrs := size_mk (tmRest s.data.toList)
    have hrd : (⟨(tmRest s.data.toList).toArray⟩ : ByteArray).data.toList = tmRest s.data.toList := rfl
    generalize (⟨(tmRest s.data.toList).toArray⟩ : ByteArray) = R at *
    rw [← hrd] at hb
    generalize tmRest s.data.toList = RL at *
    have HD := Lib.hid hD
    obtain ⟨n, len⟩ := dd
    dsimp only at *
    rw [hv]
    clear hD hv hp
    have hb1 : 0 ≤ n := by omega
    have hb2 : n ≤ 10737418249 := by omega
    have hb3 : len ≤ R.size := by omega
    have HB := Lib.hid hb
    have hrs' : R.size < 4294967281 := by omega
    clear hl1 hl2 hl3 hsl hrs hrd hb
    by_cases hz : len = 0
    · subst hz
      rw [if_pos rfl] at hn
      have HNN := Lib.hid hn
      clear hn
      go_enter Tryd.func90, Tryd.ntmps90
      go_wp2_with fail
      refine (HP.out _).mono ?_
      rintro e w' ⟨rfl, rfl⟩
      go_wp2_with fail
      refine (HT.out _).mono ?_
      rintro e w' ⟨rfl, rfl⟩
      go_wp2_with fail
      refine (HD.out _).mono ?_
      rintro e w1 ⟨rfl, hbw⟩
      go_wp2_with fail
      obtain ⟨Y, hY⟩ : ∃ Y, Y = R := ⟨_, rfl⟩
      rw [← hY]
      have HY : Hid (Y.data.toList = B) := by rw [hY, HB.out]; rfl
      have HYB : Hid (Y = ⟨B.toArray⟩) := by rw [← HY.out]; rfl
      clear hY
      have q1 := ((bcell hbw).1 _ _ hN0).trans m1
      have q2 := ((bcell hbw).1 _ _ hN0).trans m2
      have q3 := ((bcell hbw).1 _ _ hN0).trans m3
      go_loop [9] (fun i => ∃ k : Nat, k ≤ 3 ∧ i = .int .i64 k ∧ SelAt B k) (fun i => (intOf i).toNat)
      case atStart => exact ⟨3, by omega, rfl, SelAt.three B⟩
      case round =>
        obtain ⟨k, hk, rfl, hsel⟩ := hrel
        have hk4 : k = 0 ∨ k = 1 ∨ k = 2 ∨ k = 3 := by omega
        rcases hk4 with rfl | rfl | rfl | rfl
        · have hfin := selV_none hsel
          have HF := Lib.hid hfin
          clear hfin
          go_wp2
          go_ret3
          rw [HF.out.1, HF.out.2, HNN.out]
          exact ⟨by rw [HYB.out]; rfl, hbw⟩
        · cases hpp : Lib.hasPrefix B [119] with
          | true =>
            have HC : Hid (∀ w, Calls Tryd.prog 87 #[.string Y, .string { data := #[119] }] w fun e w' => e = .returned (.tuple #[.string ⟨(Lib.trimPrefix B [119]).toArray⟩, .bool true]) ∧ w' = w) := by
              have h := cutPrefix_is Y { data := #[119] } true (by rw [HY.out]; exact hpp)
              rw [HY.out] at h
              exact h
            have hfin := selV_at hsel (.inr (.inr ⟨rfl, rfl⟩)) hpp
            have HF := Lib.hid hfin
            clear hfin
            go_wp2_with (go_at_call 87; (with_reducible refine (HC.out _).mono ?_); rintro e w2 ⟨rfl, rfl⟩)
            go_ret3
            rw [HF.out.1, HF.out.2, HNN.out]
            exact ⟨rfl, hbw⟩
          | false =>
            have HC : Hid (∀ w, Calls Tryd.prog 87 #[.string Y, .string { data := #[119] }] w fun e w' => e = .returned (.tuple #[.string ⟨(Lib.trimPrefix B [119]).toArray⟩, .bool false]) ∧ w' = w) := by
              have h := cutPrefix_is Y { data := #[119] } false (by rw [HY.out]; exact hpp)
              rw [HY.out] at h
              exact h
            go_wp2_with (go_at_call 87; (with_reducible refine (HC.out _).mono ?_); rintro e w2 ⟨rfl, rfl⟩)
            go_round
            case rel => exact ⟨0, by omega, by go_num, fun _ => hsel.1 (by omega), fun _ => hsel.2.1 (by omega), fun _ => hpp⟩
            case measure => simp [intOf]
        · cases hpp : Lib.hasPrefix B [119, 50] with
          | true =>
            have HC : Hid (∀ w, Calls Tryd.prog 87 #[.string Y, .string { data := #[119, 50] }] w fun e w' => e = .returned (.tuple #[.string ⟨(Lib.trimPrefix B [119, 50]).toArray⟩, .bool true]) ∧ w' = w) := by
              have h := cutPrefix_is Y { data := #[119, 50] } true (by rw [HY.out]; exact hpp)
              rw [HY.out] at h
              exact h
            have hfin := selV_at hsel (.inr (.inl ⟨rfl, rfl⟩)) hpp
            have HF := Lib.hid hfin
            clear hfin
            go_wp2_with (go_at_call 87; (with_reducible refine (HC.out _).mono ?_); rintro e w2 ⟨rfl, rfl⟩)
            go_ret3
            rw [HF.out.1, HF.out.2, HNN.out]
            exact ⟨rfl, hbw⟩
          | false =>
            have HC : Hid (∀ w, Calls Tryd.prog 87 #[.string Y, .string { data := #[119, 50] }] w fun e w' => e = .returned (.tuple #[.string ⟨(Lib.trimPrefix B [119, 50]).toArray⟩, .bool false]) ∧ w' = w) := by
              have h := cutPrefix_is Y { data := #[119, 50] } false (by rw [HY.out]; exact hpp)
              rw [HY.out] at h
              exact h
            go_wp2_with (go_at_call 87; (with_reducible refine (HC.out _).mono ?_); rintro e w2 ⟨rfl, rfl⟩)
            go_round
            case rel => exact ⟨1, by omega, by go_num, fun _ => hsel.1 (by omega), fun _ => hpp, fun h => absurd h (by omega)⟩
            case measure => simp [intOf]
        · cases hpp : Lib.hasPrefix B [119, 51] with
          | true =>
            have HC : Hid (∀ w, Calls Tryd.prog 87 #[.string Y, .string { data := #[119, 51] }] w fun e w' => e = .returned (.tuple #[.string ⟨(Lib.trimPrefix B [119, 51]).toArray⟩, .bool true]) ∧ w' = w) := by
              have h := cutPrefix_is Y { data := #[119, 51] } true (by rw [HY.out]; exact hpp)
              rw [HY.out] at h
              exact h
            have hfin := selV_at hsel (.inl ⟨rfl, rfl⟩) hpp
            have HF := Lib.hid hfin
            clear hfin
            go_wp2_with (go_at_call 87; (with_reducible refine (HC.out _).mono ?_); rintro e w2 ⟨rfl, rfl⟩)
            go_ret3
            rw [HF.out.1, HF.out.2, HNN.out]
            exact ⟨rfl, hbw⟩
          | false =>
            have HC : Hid (∀ w, Calls Tryd.prog 87 #[.string Y, .string { data := #[119, 51] }] w fun e w' => e = .returned (.tuple #[.string ⟨(Lib.trimPrefix B [119, 51]).toArray⟩, .bool false]) ∧ w' = w) := by
              have h := cutPrefix_is Y { data := #[119, 51] } false (by rw [HY.out]; exact hpp)
              rw [HY.out] at h
              exact h
            go_wp2_with (go_at_call 87; (with_reducible refine (HC.out _).mono ?_); rintro e w2 ⟨rfl, rfl⟩)
            go_round
            case rel => exact ⟨2, by omega, by go_num, fun _ => hpp, fun h => absurd h (by omega), fun h => absurd h (by omega)⟩
            case measure => simp [intOf]
    · have hz' : ((len : Int) == 0) = false := by rw [beq_eq_false_iff_ne]; omega
      rw [if_neg hz] at hn
      have HNN := Lib.hid hn
      clear hn hz
      go_enter Tryd.func90, Tryd.ntmps90
      go_wp2_with fail
      refine (HP.out _).mono ?_
      rintro e w' ⟨rfl, rfl⟩
      go_wp2_with fail
      refine (HT.out _).mono ?_
      rintro e w' ⟨rfl, rfl⟩
      go_wp2_with fail
      refine (HD.out _).mono ?_
      rintro e w1 ⟨rfl, hbw⟩
      go_wp2_with fail
      obtain ⟨Y, hY⟩ : ∃ Y, Y = R.extract len R.size := ⟨_, rfl⟩
      rw [← hY]
      have hY1 : Y.data.toList = B := by
        rw [hY, Lib.extract_data, HB.out]
        exact List.take_of_length_le (by rw [List.length_drop, ← Lib.size_eq]; exact Nat.le_refl _)
      have HY := Lib.hid hY1
      clear hY1
      have HYB : Hid (Y = ⟨B.toArray⟩) := by rw [← HY.out]; rfl
      clear hY
      have q1 := ((bcell hbw).1 _ _ hN0).trans m1
      have q2 := ((bcell hbw).1 _ _ hN0).trans m2
      have q3 := ((bcell hbw).1 _ _ hN0).trans m3
      go_loop [9] (fun i => ∃ k : Nat, k ≤ 3 ∧ i = .int .i64 k ∧ SelAt B k) (fun i => (intOf i).toNat)
      case atStart => exact ⟨3, by omega, rfl, SelAt.three B⟩
      case round =>
        obtain ⟨k, hk, rfl, hsel⟩ := hrel
        have hk4 : k = 0 ∨ k = 1 ∨ k = 2 ∨ k = 3 := by omega
        rcases hk4 with rfl | rfl | rfl | rfl
        · have hfin := selV_none hsel
          have HF := Lib.hid hfin
          clear hfin
          go_wp2
          go_ret3
          rw [HF.out.1, HF.out.2, HNN.out]
          exact ⟨by rw [HYB.out]; rfl, hbw⟩
        · cases hpp : Lib.hasPrefix B [119] with
          | true =>
            have HC : Hid (∀ w, Calls Tryd.prog 87 #[.string Y, .string { data := #[119] }] w fun e w' => e = .returned (.tuple #[.string ⟨(Lib.trimPrefix B [119]).toArray⟩, .bool true]) ∧ w' = w) := by
              have h := cutPrefix_is Y { data := #[119] } true (by rw [HY.out]; exact hpp)
              rw [HY.out] at h
              exact h
            have hfin := selV_at hsel (.inr (.inr ⟨rfl, rfl⟩)) hpp
            have HF := Lib.hid hfin
            clear hfin
            go_wp2_with (go_at_call 87; (with_reducible refine (HC.out _).mono ?_); rintro e w2 ⟨rfl, rfl⟩)
            go_ret3
            rw [HF.out.1, HF.out.2, HNN.out]
            exact ⟨rfl, hbw⟩
          | false =>
            have HC : Hid (∀ w, Calls Tryd.prog 87 #[.string Y, .string { data := #[119] }] w fun e w' => e = .returned (.tuple #[.string ⟨(Lib.trimPrefix B [119]).toArray⟩, .bool false]) ∧ w' = w) := by
              have h := cutPrefix_is Y { data := #[119] } false (by rw [HY.out]; exact hpp)
              rw [HY.out] at h
              exact h
            go_wp2_with (go_at_call 87; (with_reducible refine (HC.out _).mono ?_); rintro e w2 ⟨rfl, rfl⟩)
            go_round
            case rel => exact ⟨0, by omega, by go_num, fun _ => hsel.1 (by omega), fun _ => hsel.2.1 (by omega), fun _ => hpp⟩
            case measure => simp [intOf]
        · cases hpp : Lib.hasPrefix B [119, 50] with
          | true =>
            have HC : Hid (∀ w, Calls Tryd.prog 87 #[.string Y, .string { data := #[119, 50] }] w fun e w' => e = .returned (.tuple #[.string ⟨(Lib.trimPrefix B [119, 50]).toArray⟩, .bool true]) ∧ w' = w) := by
              have h := cutPrefix_is Y { data := #[119, 50] } true (by rw [HY.out]; exact hpp)
              rw [HY.out] at h
              exact h
            have hfin := selV_at hsel (.inr (.inl ⟨rfl, rfl⟩)) hpp
            have HF := Lib.hid hfin
            clear hfin
            go_wp2_with (go_at_call 87; (with_reducible refine (HC.out _).mono ?_); rintro e w2 ⟨rfl, rfl⟩)
            go_ret3
            rw [HF.out.1, HF.out.2, HNN.out]
            exact ⟨rfl, hbw⟩
          | false =>
            have HC : Hid (∀ w, Calls Tryd.prog 87 #[.string Y, .string { data := #[119, 50] }] w fun e w' => e = .returned (.tuple #[.string ⟨(Lib.trimPrefix B [119, 50]).toArray⟩, .bool false]) ∧ w' = w) := by
              have h := cutPrefix_is Y { data := #[119, 50] } false (by rw [HY.out]; exact hpp)
              rw [HY.out] at h
              exact h
            go_wp2_with (go_at_call 87; (with_reducible refine (HC.out _).mono ?_); rintro e w2 ⟨rfl, rfl⟩)
            go_round
            case rel => exact ⟨1, by omega, by go_num, fun _ => hsel.1 (by omega), fun _ => hpp, fun h => absurd h (by omega)⟩
            case measure => simp [intOf]
        · cases hpp : Lib.hasPrefix B [119, 51] with
          | true =>
            have HC : Hid (∀ w, Calls Tryd.prog 87 #[.string Y, .string { data := #[119, 51] }] w fun e w' => e = .returned (.tuple #[.string ⟨(Lib.trimPrefix B [119, 51]).toArray⟩, .bool true]) ∧ w' = w) := by
              have h := cutPrefix_is Y { data := #[119, 51] } true (by rw [HY.out]; exact hpp)
              rw [HY.out] at h
              exact h
            have hfin := selV_at hsel (.inl ⟨rfl, rfl⟩) hpp
            have HF := Lib.hid hfin
            clear hfin
            go_wp2_with (go_at_call 87; (with_reducible refine (HC.out _).mono ?_); rintro e w2 ⟨rfl, rfl⟩)
            go_ret3
            rw [HF.out.1, HF.out.2, HNN.out]
            exact ⟨rfl, hbw⟩
          | false =>
            have HC : Hid (∀ w, Calls Tryd.prog 87 #[.string Y, .string { data := #[119, 51] }] w fun e w' => e = .returned (.tuple #[.string ⟨(Lib.trimPrefix B [119, 51]).toArray⟩, .bool false]) ∧ w' = w) := by
              have h := cutPrefix_is Y { data := #[119, 51] } false (by rw [HY.out]; exact hpp)
              rw [HY.out] at h
              exact h
            go_wp2_with (go_at_call 87; (with_reducible refine (HC.out _).mono ?_); rintro e w2 ⟨rfl, rfl⟩)
            go_round
            case rel => exact ⟨2, by omega, by go_num, fun _ => hpp, fun h => absurd h (by omega), fun h => absurd h (by omega)⟩
            case measure => simp [intOf]
end Go.Proofs.YtjalpolciofphaaDoor
