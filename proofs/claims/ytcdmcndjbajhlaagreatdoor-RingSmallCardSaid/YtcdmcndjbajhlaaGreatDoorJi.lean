/- The number of a text. -/
import Derived.Test.YtcdmcndjbajhlaaGreatDoorJm
import Derived.Laws.RangeAny
import Derived.Test.YtcdmcndjbajhlaaGreatDoorPt
import Derived.Test.YtcdmcndjbajhlaaGreatDoorJq
set_option linter.all false
set_option maxRecDepth 100000
namespace Go.Proofs.YtcdmcndjbajhlaaGreatDoor
open Go.RowKit

def isDig (c : UInt8) : Bool := decide (48 ≤ (c.toNat : Int) ∧ (c.toNat : Int) ≤ 57)
def rdN : List UInt8 → Int → Nat → Int × Nat
  | [], n, i => (n, i)
  | c :: t, n, i => if n ≤ 1073741824 ∧ isDig c = true then rdN t (10 * n + ((c.toNat : Int) - 48)) (i + 1) else (n, i)
theorem rdN_step (s : ByteArray) (k : Nat) (n : Int) (h : k < s.size) :
    rdN (s.data.toList.drop k) n k = if n ≤ 1073741824 ∧ isDig s[k] = true then rdN (s.data.toList.drop (k + 1)) (10 * n + ((s[k].toNat : Int) - 48)) (k + 1) else (n, k) := by
  have h' : k < s.data.toList.length := by simpa using h
  rw [List.drop_eq_getElem_cons h', rdN]
  rfl
theorem rdN_end (s : ByteArray) (k : Nat) (n : Int) (h : ¬ k < s.size) : rdN (s.data.toList.drop k) n k = (n, k) := by
  rw [List.drop_eq_nil_of_le (by simpa using Nat.le_of_not_lt h)]
  rfl
theorem rdN_len : ∀ (l : List UInt8) (n : Int) (i : Nat), i ≤ (rdN l n i).2 ∧ (rdN l n i).2 ≤ i + l.length
  | [], n, i => by simp [rdN]
  | c :: t, n, i => by
    simp only [rdN, List.length_cons]
    split
    · have := rdN_len t (10 * n + ((c.toNat : Int) - 48)) (i + 1)
      omega
    · simp
theorem rdN_num : ∀ (l : List UInt8) (n : Int) (i : Nat), 0 ≤ n → n ≤ 10737418249 → 0 ≤ (rdN l n i).1 ∧ (rdN l n i).1 ≤ 10737418249
  | [], n, i, h0, h1 => ⟨h0, h1⟩
  | c :: t, n, i, h0, h1 => by
    simp only [rdN]
    split
    · rename_i h
      have hc := h.2
      simp only [isDig, decide_eq_true_eq] at hc
      exact rdN_num t _ (i + 1) (by omega) (by omega)
    · exact ⟨h0, h1⟩

set_option maxHeartbeats 4000000 in
theorem readDigits_any (s : ByteArray) (w : World) (hs : s.size ≤ 9223372036854775807) :
    Calls Tryz.prog 102 #[.string s] w (Gives (.tuple #[.int .i64 (rdN s.data.toList 0 0).1, .int .i64 (rdN s.data.toList 0 0).2]) w) := by
  obtain ⟨R, hR⟩ : ∃ R, R = rdN s.data.toList 0 0 := ⟨_, rfl⟩
  have HR := Lib.hid hR
  rw [← hR]
  clear hR
  go_enter Tryz.func102, Tryz.ntmps102
  go_wp2
  go_step3
  go_wp2
  go_step3
  go_wp2
  go_loopw [4, 5] (fun t t5 wr => ∃ (n : Int) (k : Nat), wr = w.iter s k ∧ t5 = .int .i64 s.size ∧ t = .int .i64 n ∧ 0 ≤ n ∧ n ≤ 10737418249 ∧ k ≤ s.size ∧ Hid (R = rdN (s.data.toList.drop k) n k)) (fun _ _ wr => s.size - wr.iterPos w.heap.size)
  case atStart => exact ⟨0, 0, rfl, rfl, rfl, by omega, by omega, by omega, HR⟩
  case round =>
    obtain ⟨n, k, rfl, rfl, rfl, hn0, hn1, hk, HK⟩ := hrel
    have hbw : Below w.heap.size w (w.iter s k) := below_al (Below.refl _ _) _
    by_cases hp : k < s.size
    · have hnx : ∀ ty, (Instr.next (.pointer (some ⟨w.heap.size, 0, none⟩)) true ty).run Tryz.prog (w.iter s k) = _ := fun ty => run_next_any w s k ty hp
      have hst := rdN_step s k n hp
      by_cases hg : n ≤ 1073741824 ∧ isDig s[k] = true
      · obtain ⟨hg1, hg2⟩ := hg
        rw [if_pos ⟨hg1, hg2⟩] at hst
        have hd := hg2
        simp only [isDig, decide_eq_true_eq] at hd
        have hdec := decode_ascii s k hp (by omega)
        simp only [hdec] at hnx
        obtain ⟨d1, d2⟩ := hd
        have HS := Lib.hid hst
        have hr1 : ((s[k]'hp).toNat : Int) ≤ 255 := by have := (s[k]'hp).toNat_lt; omega
        clear hst hg2 hdec
        generalize (s[k]'hp).toNat = c at *
        go_wp2
        go_roundw
        case rel => exact ⟨10 * n + ((c : Int) - 48), k + 1, rfl, rfl, by go_num, by omega, by omega, by omega, Lib.hid (HK.out.trans HS.out)⟩
        case measure => simp; omega
      · rw [if_neg hg] at hst
        have hre : R = (n, k) := HK.out.trans hst
        have hcase : ¬ n ≤ 1073741824 ∨ ¬ 48 ≤ ((Utf8.decode s k).1 : Int) ∨ ¬ ((Utf8.decode s k).1 : Int) ≤ 57 := by
          by_cases h1 : n ≤ 1073741824
          · right
            by_cases ha : (s[k]'hp).toNat < 128
            · rw [decode_ascii s k hp ha]
              have h2 : ¬ isDig s[k] = true := fun h => hg ⟨h1, h⟩
              simp only [isDig, decide_eq_true_eq] at h2
              omega
            · have := (decode_high s k hp (by omega)).1
              omega
          · exact .inl h1
        have hle := decode_le s k
        have HRE := Lib.hid hre
        clear hst hg hre HK
        generalize (Utf8.decode s k).1 = c at *
        generalize (Utf8.decode s k).2 = d at *
        have hbw2 : Below w.heap.size w (w.iter s (k + d)) := below_al (Below.refl _ _) _
        by_cases h1 : n ≤ 1073741824
        · by_cases h2 : 48 ≤ (c : Int)
          · have h3 : ¬ (c : Int) ≤ 57 := by omega
            go_wp2
            go_ret2
            rw [HRE.out]
            exact ⟨rfl, hbw2⟩
          · go_wp2
            go_ret2
            rw [HRE.out]
            exact ⟨rfl, hbw2⟩
        · go_wp2
          go_ret2
          rw [HRE.out]
          exact ⟨rfl, hbw2⟩
    · have hnx : ∀ ty, (Instr.next (.pointer (some ⟨w.heap.size, 0, none⟩)) true ty).run Tryz.prog (w.iter s k) = _ := fun ty => run_next_end w s k ty hp
      have hre : R = (n, k) := HK.out.trans (rdN_end s k n hp)
      have hks : k = s.size := by omega
      have HRE := Lib.hid hre
      have HKS := Lib.hid hks
      clear hre HK hk hks
      go_wp2
      go_ret2
      rw [HRE.out]
      exact ⟨by rw [HKS.out]; rfl, hbw⟩
end Go.Proofs.YtcdmcndjbajhlaaGreatDoor
namespace Go.Proofs.YtcdmcndjbajhlaaGreatDoor
open Go.RowKit Go.Shelf

/-- The library's variable that Cut reads holds an integer. -/
def CutVar (w : World) : Prop := ∃ m, 2 < w.heap.size ∧ w.cell? ⟨2, 0, none⟩ = some (.int .i64 m)
theorem CutVar.below {w w' : World} (h : CutVar w) (hb : Below w.heap.size w w') : CutVar w' := by
  obtain ⟨m, h0, h1⟩ := h
  have := hb.size
  exact ⟨m, by omega, ((bcell hb).1 _ _ h0).trans h1⟩

def rootC (l : List UInt8) : List UInt8 × List UInt8 × Bool := Lib.cut (Lib.trimPrefix l [40]) [41, 47, 114]
def rootT (l : List UInt8) : List UInt8 := if Lib.hasPrefix l [40] = true then (rootC l).1 else l
def rootK (l : List UInt8) : Int := if Lib.hasPrefix l [40] = true then (rdN (rootC l).2.1 0 0).1 else 0
def rootO (l : List UInt8) : Bool := if Lib.hasPrefix l [40] = true then (rootC l).2.2 && decide ((rdN (rootC l).2.1 0 0).2 = (rootC l).2.1.length) else true
def rootV (l : List UInt8) : Value := .tuple #[.string ⟨(rootT l).toArray⟩, .int .i64 (rootK l), .bool (rootO l)]

theorem size_mk (l : List UInt8) : (⟨l.toArray⟩ : ByteArray).size = l.length := by simp [ByteArray.size]
theorem cutPrefix_is (s p : ByteArray) (b : Bool) (h : Lib.hasPrefix s.data.toList p.data.toList = b) (w : World) :
    Calls Tryz.prog 100 #[.string s, .string p] w fun e w' => e = .returned (.tuple #[.string ⟨(Lib.trimPrefix s.data.toList p.data.toList).toArray⟩, .bool b]) ∧ w' = w := by
  subst h
  exact Tryz.strings_CutPrefix s p w
theorem trim_len (l p : List UInt8) : (Lib.trimPrefix l p).length ≤ l.length := by
  unfold Lib.trimPrefix
  split
  · simp
  · exact Nat.le_refl _
theorem cut_len (l p : List UInt8) : (Lib.cut l p).1.length ≤ l.length ∧ (Lib.cut l p).2.1.length ≤ l.length := by
  unfold Lib.cut
  split
  · simp; omega
  · simp

set_option maxHeartbeats 2000000 in
theorem cutRoot_any (s : ByteArray) (w : World) (hs : s.size < 4294967281) (hv : CutVar w) :
    Calls Tryz.prog 65 #[.string s] w (Gives (rootV s.data.toList) w) := by
  have hsl : s.size = s.data.toList.length := Lib.size_eq s
  cases hp : Lib.hasPrefix s.data.toList [40] with
  | false =>
    have HP := Lib.hid (cutPrefix_is s { data := #[40] } false hp)
    have hr : rootV s.data.toList = .tuple #[.string s, .int .i64 0, .bool true] := by
      simp only [rootV, rootT, rootK, rootO, hp, Bool.false_eq_true, if_false]
    rw [hr]
    clear hr hv hsl
    go_enter Tryz.func65, Tryz.ntmps65
    go_wp2_with fail
    refine (HP.out _).mono ?_
    rintro e w' ⟨rfl, rfl⟩
    go_wp2_with fail
    go_ret3
    exact ⟨rfl, Below.refl _ _⟩
  | true =>
    have HP := Lib.hid (cutPrefix_is s { data := #[40] } true hp)
    have hl1 := trim_len s.data.toList [40]
    have hl2 := cut_len (Lib.trimPrefix s.data.toList [40]) [41, 47, 114]
    obtain ⟨m, hg, hm⟩ := hv
    have hc := Tryz.strings_Cut ⟨(Lib.trimPrefix s.data.toList [40]).toArray⟩ { data := #[41, 47, 114] } m w (by rw [size_mk]; omega) hm
    have hr : rootV s.data.toList = .tuple #[.string ⟨(rootC s.data.toList).1.toArray⟩, .int .i64 (rdN (rootC s.data.toList).2.1 0 0).1, .bool ((rootC s.data.toList).2.2 && decide ((rdN (rootC s.data.toList).2.1 0 0).2 = (rootC s.data.toList).2.1.length))] := by
      simp only [rootV, rootT, rootK, rootO, hp, if_true]
    rw [hr]
    have hc' : Calls Tryz.prog 101 #[.string ⟨(Lib.trimPrefix s.data.toList [40]).toArray⟩, .string { data := #[41, 47, 114] }] w fun e w' => e = .returned (.tuple #[.string ⟨(rootC s.data.toList).1.toArray⟩, .string ⟨(rootC s.data.toList).2.1.toArray⟩, .bool (rootC s.data.toList).2.2]) ∧ ∃ n, w' = w.drewN n := hc
    have hl3 : (rootC s.data.toList).2.1.length ≤ s.data.toList.length := Nat.le_trans hl2.2 hl1
    have HD : Hid (∀ w, Calls Tryz.prog 102 #[.string ⟨(rootC s.data.toList).2.1.toArray⟩] w (Gives (.tuple #[.int .i64 (rdN (rootC s.data.toList).2.1 0 0).1, .int .i64 (rdN (rootC s.data.toList).2.1 0 0).2]) w)) :=
      fun w => readDigits_any _ w (by rw [size_mk]; omega)
    have hl4 := rdN_len (rootC s.data.toList).2.1 0 0
    have hl5 := size_mk (rootC s.data.toList).2.1
    have HC := Lib.hid hc'
    have HP' : Hid (∀ w, Calls Tryz.prog 100 #[.string s, .string { data := #[40] }] w fun e w' => e = .returned (.tuple #[.string ⟨(Lib.trimPrefix s.data.toList [40]).toArray⟩, .bool true]) ∧ w' = w) := HP
    clear hc hc' hr hp hl2 hm hg HP
    generalize (⟨(Lib.trimPrefix s.data.toList [40]).toArray⟩ : ByteArray) = X at *
    generalize rdN (rootC s.data.toList).2.1 0 0 = dd at *
    generalize (⟨(rootC s.data.toList).2.1.toArray⟩ : ByteArray) = R at *
    generalize (⟨(rootC s.data.toList).1.toArray⟩ : ByteArray) = T at *
    generalize (rootC s.data.toList).2.2 = ok at *
    generalize (rootC s.data.toList).2.1.length = rl at *
    obtain ⟨n, len⟩ := dd
    dsimp only at *
    subst hl5
    cases ok with
    | false =>
      go_enter Tryz.func65, Tryz.ntmps65
      go_wp2_with fail
      refine (HP'.out _).mono ?_
      rintro e w' ⟨rfl, rfl⟩
      go_wp2_with fail
      refine HC.out.mono ?_
      rintro e w1 ⟨rfl, k, rfl⟩
      go_wp2_with fail
      refine (HD.out _).mono ?_
      rintro e w2 ⟨rfl, hb⟩
      go_wp2_with fail
      go_ret3
      exact ⟨rfl, below_via hb (below_dN (Below.refl _ _) _)⟩
    | true =>
      cases hq : decide (len = R.size)
      · have hq' : ((len : Int) == (R.size : Int)) = false := by
          rw [beq_eq_false_iff_ne]; have := of_decide_eq_false hq; omega
        go_enter Tryz.func65, Tryz.ntmps65
        go_wp2_with fail
        refine (HP'.out _).mono ?_
        rintro e w' ⟨rfl, rfl⟩
        go_wp2_with fail
        refine HC.out.mono ?_
        rintro e w1 ⟨rfl, k, rfl⟩
        go_wp2_with fail
        refine (HD.out _).mono ?_
        rintro e w2 ⟨rfl, hb⟩
        go_wp2_with fail
        go_ret3
        exact ⟨rfl, below_via hb (below_dN (Below.refl _ _) _)⟩
      · have hq' : ((len : Int) == (R.size : Int)) = true := by
          rw [beq_iff_eq]; have := of_decide_eq_true hq; omega
        go_enter Tryz.func65, Tryz.ntmps65
        go_wp2_with fail
        refine (HP'.out _).mono ?_
        rintro e w' ⟨rfl, rfl⟩
        go_wp2_with fail
        refine HC.out.mono ?_
        rintro e w1 ⟨rfl, k, rfl⟩
        go_wp2_with fail
        refine (HD.out _).mono ?_
        rintro e w2 ⟨rfl, hb⟩
        go_wp2_with fail
        go_ret3
        exact ⟨rfl, below_via hb (below_dN (Below.refl _ _) _)⟩

def tmMinus (l : List UInt8) : Bool := Lib.hasPrefix l [45]
def tmRest (l : List UInt8) : List UInt8 := if tmMinus l = true then Lib.trimPrefix l [45] else Lib.trimPrefix l [43]
def tmD (l : List UInt8) : Int × Nat := rdN (tmRest l) 0 0
def tmN (l : List UInt8) : Int := if tmMinus l = true then -(if (tmD l).2 = 0 then 1 else (tmD l).1) else (if (tmD l).2 = 0 then 1 else (tmD l).1)
def tmB (l : List UInt8) : List UInt8 := (tmRest l).drop (tmD l).2
def selI (b : List UInt8) : Nat := if Lib.hasPrefix b [119, 51] = true then 3 else if Lib.hasPrefix b [119, 50] = true then 2 else if Lib.hasPrefix b [119] = true then 1 else 0
def selR (b : List UInt8) : List UInt8 := if Lib.hasPrefix b [119, 51] = true then Lib.trimPrefix b [119, 51] else if Lib.hasPrefix b [119, 50] = true then Lib.trimPrefix b [119, 50] else if Lib.hasPrefix b [119] = true then Lib.trimPrefix b [119] else b
def termV (l : List UInt8) : Value := .tuple #[.int .i64 (selI (tmB l)), .int .i64 (tmN l), .string ⟨(selR (tmB l)).toArray⟩]

theorem tm_num (l : List UInt8) : -10737418249 ≤ tmN l ∧ tmN l ≤ 10737418249 := by
  have h := rdN_num (tmRest l) 0 0 (by omega) (by omega)
  unfold tmN tmD
  split <;> split <;> omega
theorem selR_len (b : List UInt8) : (selR b).length ≤ b.length := by
  unfold selR
  split
  · exact trim_len _ _
  · split
    · exact trim_len _ _
    · split
      · exact trim_len _ _
      · exact Nat.le_refl _
theorem tmRest_len (l : List UInt8) : (tmRest l).length ≤ l.length := by
  unfold tmRest
  split <;> exact trim_len _ _
theorem selI_le (b : List UInt8) : selI b ≤ 3 := by
  unfold selI; split
  · omega
  · split
    · omega
    · split <;> omega

/-- The search for the name, from the third on. -/
def SelAt (b : List UInt8) (k : Nat) : Prop := (k < 3 → Lib.hasPrefix b [119, 51] = false) ∧ (k < 2 → Lib.hasPrefix b [119, 50] = false) ∧ (k < 1 → Lib.hasPrefix b [119] = false)

theorem SelAt.three (b : List UInt8) : SelAt b 3 := ⟨by omega, by omega, by omega⟩
theorem selV_at {b : List UInt8} {k : Nat} {p : List UInt8} (h : SelAt b k) (hk : k = 3 ∧ p = [119, 51] ∨ k = 2 ∧ p = [119, 50] ∨ k = 1 ∧ p = [119]) (hp : Lib.hasPrefix b p = true) : selI b = k ∧ selR b = Lib.trimPrefix b p := by
  obtain ⟨h3, h2, h1⟩ := h
  unfold selI selR
  rcases hk with ⟨rfl, rfl⟩ | ⟨rfl, rfl⟩ | ⟨rfl, rfl⟩
  · rw [if_pos hp, if_pos hp]; exact ⟨rfl, rfl⟩
  · rw [h3 (by omega), hp]; simp
  · rw [h3 (by omega), h2 (by omega), hp]; simp
theorem selV_none {b : List UInt8} (h : SelAt b 0) : selI b = 0 ∧ selR b = b := by
  obtain ⟨h3, h2, h1⟩ := h
  unfold selI selR
  rw [h3 (by omega), h2 (by omega), h1 (by omega)]; simp

theorem trimPrefix_is (s p : ByteArray) (w : World) :
    Calls Tryz.prog 111 #[.string s, .string p] w fun e w' => e = .returned (.string ⟨(Lib.trimPrefix s.data.toList p.data.toList).toArray⟩) ∧ w' = w := Tryz.strings_TrimPrefix s p w

set_option maxHeartbeats 4000000 in
theorem readTerm_any (s : ByteArray) (w : World) (hs : s.size < 4294967281) (hN : NamesAre w) :
    Calls Tryz.prog 103 #[.string s] w (Gives (termV s.data.toList) w) := by
  have hsl : s.size = s.data.toList.length := Lib.size_eq s
  have hl1 := tmRest_len s.data.toList
  have hl2 := rdN_len (tmRest s.data.toList) 0 0
  have hl3 := rdN_num (tmRest s.data.toList) 0 0 (by omega) (by omega)
  have hv : termV s.data.toList = .tuple #[.int .i64 (selI (tmB s.data.toList)), .int .i64 (tmN s.data.toList), .string ⟨(selR (tmB s.data.toList)).toArray⟩] := rfl
  have hn : tmN s.data.toList = if tmMinus s.data.toList = true then -(if (tmD s.data.toList).2 = 0 then 1 else (tmD s.data.toList).1) else (if (tmD s.data.toList).2 = 0 then 1 else (tmD s.data.toList).1) := rfl
  have hb : tmB s.data.toList = (tmRest s.data.toList).drop (tmD s.data.toList).2 := rfl
  have hD : ∀ w, Calls Tryz.prog 102 #[.string ⟨(tmRest s.data.toList).toArray⟩] w (Gives (.tuple #[.int .i64 (tmD s.data.toList).1, .int .i64 (tmD s.data.toList).2]) w) :=
    fun w => readDigits_any _ w (by rw [size_mk]; omega)
  change 0 ≤ (tmD s.data.toList).2 ∧ (tmD s.data.toList).2 ≤ 0 + (tmRest s.data.toList).length at hl2
  change 0 ≤ (tmD s.data.toList).1 ∧ (tmD s.data.toList).1 ≤ 10737418249 at hl3
  obtain ⟨hN0, m0, m1, m2, m3⟩ := hN
  dsimp only [nameB] at m0 m1 m2 m3
  cases hp : tmMinus s.data.toList with
  | true =>
    have HP : Hid (∀ w, Calls Tryz.prog 100 #[.string s, .string { data := #[45] }] w fun e w' => e = .returned (.tuple #[.string ⟨(tmRest s.data.toList).toArray⟩, .bool true]) ∧ w' = w) := by
      have h := cutPrefix_is s { data := #[45] } true hp
      have e1 : tmRest s.data.toList = Lib.trimPrefix s.data.toList [45] := by unfold tmRest; rw [if_pos hp]
      rw [e1]
      exact h
    rw [hp, if_pos rfl] at hn
    generalize tmB s.data.toList = B at *
    generalize tmN s.data.toList = N at *
    generalize tmD s.data.toList = dd at *
    have hrs := size_mk (tmRest s.data.toList)
    have hrd : (⟨(tmRest s.data.toList).toArray⟩ : ByteArray).data.toList = tmRest s.data.toList := rfl
    generalize (⟨(tmRest s.data.toList).toArray⟩ : ByteArray) = R at *
    rw [← hrd] at hb
    generalize tmRest s.data.toList = RL at *
    have HD := Lib.hid hD
    obtain ⟨n, len⟩ := dd
    dsimp only at *
    rw [hv]
    clear hD hv hp
    have hb1 : 0 ≤ n := by omega
    have hb2 : n ≤ 10737418249 := by omega
    have hb3 : len ≤ R.size := by omega
    have HB := Lib.hid hb
    have hrs' : R.size < 4294967281 := by omega
    clear hl1 hl2 hl3 hsl hrs hrd hb
    by_cases hz : len = 0
    · subst hz
      rw [if_pos rfl] at hn
      have HNN := Lib.hid hn
      clear hn
      go_enter Tryz.func103, Tryz.ntmps103
      go_wp2_with fail
      refine (HP.out _).mono ?_
      rintro e w' ⟨rfl, rfl⟩
      go_wp2_with fail
      refine (HD.out _).mono ?_
      rintro e w1 ⟨rfl, hbw⟩
      go_wp2_with fail
      obtain ⟨Y, hY⟩ : ∃ Y, Y = R := ⟨_, rfl⟩
      rw [← hY]
      have HY : Hid (Y.data.toList = B) := by rw [hY, HB.out]; rfl
      have HYB : Hid (Y = ⟨B.toArray⟩) := by rw [← HY.out]; rfl
      clear hY
      have q1 := ((bcell hbw).1 _ _ hN0).trans m1
      have q2 := ((bcell hbw).1 _ _ hN0).trans m2
      have q3 := ((bcell hbw).1 _ _ hN0).trans m3
      go_loop [9] (fun i => ∃ k : Nat, k ≤ 3 ∧ i = .int .i64 k ∧ SelAt B k) (fun i => (intOf i).toNat)
      case atStart => exact ⟨3, by omega, rfl, SelAt.three B⟩
      case round =>
        obtain ⟨k, hk, rfl, hsel⟩ := hrel
        have hk4 : k = 0 ∨ k = 1 ∨ k = 2 ∨ k = 3 := by omega
        rcases hk4 with rfl | rfl | rfl | rfl
        · have hfin := selV_none hsel
          have HF := Lib.hid hfin
          clear hfin
          go_wp2
          go_ret3
          rw [HF.out.1, HF.out.2, HNN.out]
          exact ⟨by rw [HYB.out]; rfl, hbw⟩
        · cases hpp : Lib.hasPrefix B [119] with
          | true =>
            have HC : Hid (∀ w, Calls Tryz.prog 100 #[.string Y, .string { data := #[119] }] w fun e w' => e = .returned (.tuple #[.string ⟨(Lib.trimPrefix B [119]).toArray⟩, .bool true]) ∧ w' = w) := by
              have h := cutPrefix_is Y { data := #[119] } true (by rw [HY.out]; exact hpp)
              rw [HY.out] at h
              exact h
            have hfin := selV_at hsel (.inr (.inr ⟨rfl, rfl⟩)) hpp
            have HF := Lib.hid hfin
            clear hfin
            go_wp2_with (go_at_call 100; (with_reducible refine (HC.out _).mono ?_); rintro e w2 ⟨rfl, rfl⟩)
            go_ret3
            rw [HF.out.1, HF.out.2, HNN.out]
            exact ⟨rfl, hbw⟩
          | false =>
            have HC : Hid (∀ w, Calls Tryz.prog 100 #[.string Y, .string { data := #[119] }] w fun e w' => e = .returned (.tuple #[.string ⟨(Lib.trimPrefix B [119]).toArray⟩, .bool false]) ∧ w' = w) := by
              have h := cutPrefix_is Y { data := #[119] } false (by rw [HY.out]; exact hpp)
              rw [HY.out] at h
              exact h
            go_wp2_with (go_at_call 100; (with_reducible refine (HC.out _).mono ?_); rintro e w2 ⟨rfl, rfl⟩)
            go_round
            case rel => exact ⟨0, by omega, by go_num, fun _ => hsel.1 (by omega), fun _ => hsel.2.1 (by omega), fun _ => hpp⟩
            case measure => simp [intOf]
        · cases hpp : Lib.hasPrefix B [119, 50] with
          | true =>
            have HC : Hid (∀ w, Calls Tryz.prog 100 #[.string Y, .string { data := #[119, 50] }] w fun e w' => e = .returned (.tuple #[.string ⟨(Lib.trimPrefix B [119, 50]).toArray⟩, .bool true]) ∧ w' = w) := by
              have h := cutPrefix_is Y { data := #[119, 50] } true (by rw [HY.out]; exact hpp)
              rw [HY.out] at h
              exact h
            have hfin := selV_at hsel (.inr (.inl ⟨rfl, rfl⟩)) hpp
            have HF := Lib.hid hfin
            clear hfin
            go_wp2_with (go_at_call 100; (with_reducible refine (HC.out _).mono ?_); rintro e w2 ⟨rfl, rfl⟩)
            go_ret3
            rw [HF.out.1, HF.out.2, HNN.out]
            exact ⟨rfl, hbw⟩
          | false =>
            have HC : Hid (∀ w, Calls Tryz.prog 100 #[.string Y, .string { data := #[119, 50] }] w fun e w' => e = .returned (.tuple #[.string ⟨(Lib.trimPrefix B [119, 50]).toArray⟩, .bool false]) ∧ w' = w) := by
              have h := cutPrefix_is Y { data := #[119, 50] } false (by rw [HY.out]; exact hpp)
              rw [HY.out] at h
              exact h
            go_wp2_with (go_at_call 100; (with_reducible refine (HC.out _).mono ?_); rintro e w2 ⟨rfl, rfl⟩)
            go_round
            case rel => exact ⟨1, by omega, by go_num, fun _ => hsel.1 (by omega), fun _ => hpp, fun h => absurd h (by omega)⟩
            case measure => simp [intOf]
        · cases hpp : Lib.hasPrefix B [119, 51] with
          | true =>
            have HC : Hid (∀ w, Calls Tryz.prog 100 #[.string Y, .string { data := #[119, 51] }] w fun e w' => e = .returned (.tuple #[.string ⟨(Lib.trimPrefix B [119, 51]).toArray⟩, .bool true]) ∧ w' = w) := by
              have h := cutPrefix_is Y { data := #[119, 51] } true (by rw [HY.out]; exact hpp)
              rw [HY.out] at h
              exact h
            have hfin := selV_at hsel (.inl ⟨rfl, rfl⟩) hpp
            have HF := Lib.hid hfin
            clear hfin
            go_wp2_with (go_at_call 100; (with_reducible refine (HC.out _).mono ?_); rintro e w2 ⟨rfl, rfl⟩)
            go_ret3
            rw [HF.out.1, HF.out.2, HNN.out]
            exact ⟨rfl, hbw⟩
          | false =>
            have HC : Hid (∀ w, Calls Tryz.prog 100 #[.string Y, .string { data := #[119, 51] }] w fun e w' => e = .returned (.tuple #[.string ⟨(Lib.trimPrefix B [119, 51]).toArray⟩, .bool false]) ∧ w' = w) := by
              have h := cutPrefix_is Y { data := #[119, 51] } false (by rw [HY.out]; exact hpp)
              rw [HY.out] at h
              exact h
            go_wp2_with (go_at_call 100; (with_reducible refine (HC.out _).mono ?_); rintro e w2 ⟨rfl, rfl⟩)
            go_round
            case rel => exact ⟨2, by omega, by go_num, fun _ => hpp, fun h => absurd h (by omega), fun h => absurd h (by omega)⟩
            case measure => simp [intOf]
    · have hz' : ((len : Int) == 0) = false := by rw [beq_eq_false_iff_ne]; omega
      rw [if_neg hz] at hn
      have HNN := Lib.hid hn
      clear hn hz
      go_enter Tryz.func103, Tryz.ntmps103
      go_wp2_with fail
      refine (HP.out _).mono ?_
      rintro e w' ⟨rfl, rfl⟩
      go_wp2_with fail
      refine (HD.out _).mono ?_
      rintro e w1 ⟨rfl, hbw⟩
      go_wp2_with fail
      obtain ⟨Y, hY⟩ : ∃ Y, Y = R.extract len R.size := ⟨_, rfl⟩
      rw [← hY]
      have hY1 : Y.data.toList = B := by
        rw [hY, Lib.extract_data, HB.out]
        exact List.take_of_length_le (by rw [List.length_drop, ← Lib.size_eq]; exact Nat.le_refl _)
      have HY := Lib.hid hY1
      clear hY1
      have HYB : Hid (Y = ⟨B.toArray⟩) := by rw [← HY.out]; rfl
      clear hY
      have q1 := ((bcell hbw).1 _ _ hN0).trans m1
      have q2 := ((bcell hbw).1 _ _ hN0).trans m2
      have q3 := ((bcell hbw).1 _ _ hN0).trans m3
      go_loop [9] (fun i => ∃ k : Nat, k ≤ 3 ∧ i = .int .i64 k ∧ SelAt B k) (fun i => (intOf i).toNat)
      case atStart => exact ⟨3, by omega, rfl, SelAt.three B⟩
      case round =>
        obtain ⟨k, hk, rfl, hsel⟩ := hrel
        have hk4 : k = 0 ∨ k = 1 ∨ k = 2 ∨ k = 3 := by omega
        rcases hk4 with rfl | rfl | rfl | rfl
        · have hfin := selV_none hsel
          have HF := Lib.hid hfin
          clear hfin
          go_wp2
          go_ret3
          rw [HF.out.1, HF.out.2, HNN.out]
          exact ⟨by rw [HYB.out]; rfl, hbw⟩
        · cases hpp : Lib.hasPrefix B [119] with
          | true =>
            have HC : Hid (∀ w, Calls Tryz.prog 100 #[.string Y, .string { data := #[119] }] w fun e w' => e = .returned (.tuple #[.string ⟨(Lib.trimPrefix B [119]).toArray⟩, .bool true]) ∧ w' = w) := by
              have h := cutPrefix_is Y { data := #[119] } true (by rw [HY.out]; exact hpp)
              rw [HY.out] at h
              exact h
            have hfin := selV_at hsel (.inr (.inr ⟨rfl, rfl⟩)) hpp
            have HF := Lib.hid hfin
            clear hfin
            go_wp2_with (go_at_call 100; (with_reducible refine (HC.out _).mono ?_); rintro e w2 ⟨rfl, rfl⟩)
            go_ret3
            rw [HF.out.1, HF.out.2, HNN.out]
            exact ⟨rfl, hbw⟩
          | false =>
            have HC : Hid (∀ w, Calls Tryz.prog 100 #[.string Y, .string { data := #[119] }] w fun e w' => e = .returned (.tuple #[.string ⟨(Lib.trimPrefix B [119]).toArray⟩, .bool false]) ∧ w' = w) := by
              have h := cutPrefix_is Y { data := #[119] } false (by rw [HY.out]; exact hpp)
              rw [HY.out] at h
              exact h
            go_wp2_with (go_at_call 100; (with_reducible refine (HC.out _).mono ?_); rintro e w2 ⟨rfl, rfl⟩)
            go_round
            case rel => exact ⟨0, by omega, by go_num, fun _ => hsel.1 (by omega), fun _ => hsel.2.1 (by omega), fun _ => hpp⟩
            case measure => simp [intOf]
        · cases hpp : Lib.hasPrefix B [119, 50] with
          | true =>
            have HC : Hid (∀ w, Calls Tryz.prog 100 #[.string Y, .string { data := #[119, 50] }] w fun e w' => e = .returned (.tuple #[.string ⟨(Lib.trimPrefix B [119, 50]).toArray⟩, .bool true]) ∧ w' = w) := by
              have h := cutPrefix_is Y { data := #[119, 50] } true (by rw [HY.out]; exact hpp)
              rw [HY.out] at h
              exact h
            have hfin := selV_at hsel (.inr (.inl ⟨rfl, rfl⟩)) hpp
            have HF := Lib.hid hfin
            clear hfin
            go_wp2_with (go_at_call 100; (with_reducible refine (HC.out _).mono ?_); rintro e w2 ⟨rfl, rfl⟩)
            go_ret3
            rw [HF.out.1, HF.out.2, HNN.out]
            exact ⟨rfl, hbw⟩
          | false =>
            have HC : Hid (∀ w, Calls Tryz.prog 100 #[.string Y, .string { data := #[119, 50] }] w fun e w' => e = .returned (.tuple #[.string ⟨(Lib.trimPrefix B [119, 50]).toArray⟩, .bool false]) ∧ w' = w) := by
              have h := cutPrefix_is Y { data := #[119, 50] } false (by rw [HY.out]; exact hpp)
              rw [HY.out] at h
              exact h
            go_wp2_with (go_at_call 100; (with_reducible refine (HC.out _).mono ?_); rintro e w2 ⟨rfl, rfl⟩)
            go_round
            case rel => exact ⟨1, by omega, by go_num, fun _ => hsel.1 (by omega), fun _ => hpp, fun h => absurd h (by omega)⟩
            case measure => simp [intOf]
        · cases hpp : Lib.hasPrefix B [119, 51] with
          | true =>
            have HC : Hid (∀ w, Calls Tryz.prog 100 #[.string Y, .string { data := #[119, 51] }] w fun e w' => e = .returned (.tuple #[.string ⟨(Lib.trimPrefix B [119, 51]).toArray⟩, .bool true]) ∧ w' = w) := by
              have h := cutPrefix_is Y { data := #[119, 51] } true (by rw [HY.out]; exact hpp)
              rw [HY.out] at h
              exact h
            have hfin := selV_at hsel (.inl ⟨rfl, rfl⟩) hpp
            have HF := Lib.hid hfin
            clear hfin
            go_wp2_with (go_at_call 100; (with_reducible refine (HC.out _).mono ?_); rintro e w2 ⟨rfl, rfl⟩)
            go_ret3
            rw [HF.out.1, HF.out.2, HNN.out]
            exact ⟨rfl, hbw⟩
          | false =>
            have HC : Hid (∀ w, Calls Tryz.prog 100 #[.string Y, .string { data := #[119, 51] }] w fun e w' => e = .returned (.tuple #[.string ⟨(Lib.trimPrefix B [119, 51]).toArray⟩, .bool false]) ∧ w' = w) := by
              have h := cutPrefix_is Y { data := #[119, 51] } false (by rw [HY.out]; exact hpp)
              rw [HY.out] at h
              exact h
            go_wp2_with (go_at_call 100; (with_reducible refine (HC.out _).mono ?_); rintro e w2 ⟨rfl, rfl⟩)
            go_round
            case rel => exact ⟨2, by omega, by go_num, fun _ => hpp, fun h => absurd h (by omega), fun h => absurd h (by omega)⟩
            case measure => simp [intOf]
  | false =>
    have HP : Hid (∀ w, Calls Tryz.prog 100 #[.string s, .string { data := #[45] }] w fun e w' => e = .returned (.tuple #[.string ⟨(Lib.trimPrefix s.data.toList [45]).toArray⟩, .bool false]) ∧ w' = w) :=
      cutPrefix_is s { data := #[45] } false hp
    have HT : Hid (∀ w, Calls Tryz.prog 111 #[.string s, .string { data := #[43] }] w fun e w' => e = .returned (.string ⟨(tmRest s.data.toList).toArray⟩) ∧ w' = w) := by
      have h := trimPrefix_is s { data := #[43] }
      have e1 : tmRest s.data.toList = Lib.trimPrefix s.data.toList [43] := by unfold tmRest; rw [hp, if_neg (by simp)]
      rw [e1]
      exact h
    rw [hp, if_neg (by simp)] at hn
    generalize (⟨(Lib.trimPrefix s.data.toList [45]).toArray⟩ : ByteArray) = Z at *
    generalize tmB s.data.toList = B at *
    generalize tmN s.data.toList = N at *
    generalize tmD s.data.toList = dd at *
    have hrs := size_mk (tmRest s.data.toList)
    have hrd : (⟨(tmRest s.data.toList).toArray⟩ : ByteArray).data.toList = tmRest s.data.toList := rfl
    generalize (⟨(tmRest s.data.toList).toArray⟩ : ByteArray) = R at *
    rw [← hrd] at hb
    generalize tmRest s.data.toList = RL at *
    have HD := Lib.hid hD
    obtain ⟨n, len⟩ := dd
    dsimp only at *
    rw [hv]
    clear hD hv hp
    have hb1 : 0 ≤ n := by omega
    have hb2 : n ≤ 10737418249 := by omega
    have hb3 : len ≤ R.size := by omega
    have HB := Lib.hid hb
    have hrs' : R.size < 4294967281 := by omega
    clear hl1 hl2 hl3 hsl hrs hrd hb
    by_cases hz : len = 0
    · subst hz
      rw [if_pos rfl] at hn
      have HNN := Lib.hid hn
      clear hn
      go_enter Tryz.func103, Tryz.ntmps103
      go_wp2_with fail
      refine (HP.out _).mono ?_
      rintro e w' ⟨rfl, rfl⟩
      go_wp2_with fail
      refine (HT.out _).mono ?_
      rintro e w' ⟨rfl, rfl⟩
      go_wp2_with fail
      refine (HD.out _).mono ?_
      rintro e w1 ⟨rfl, hbw⟩
      go_wp2_with fail
      obtain ⟨Y, hY⟩ : ∃ Y, Y = R := ⟨_, rfl⟩
      rw [← hY]
      have HY : Hid (Y.data.toList = B) := by rw [hY, HB.out]; rfl
      have HYB : Hid (Y = ⟨B.toArray⟩) := by rw [← HY.out]; rfl
      clear hY
      have q1 := ((bcell hbw).1 _ _ hN0).trans m1
      have q2 := ((bcell hbw).1 _ _ hN0).trans m2
      have q3 := ((bcell hbw).1 _ _ hN0).trans m3
      go_loop [9] (fun i => ∃ k : Nat, k ≤ 3 ∧ i = .int .i64 k ∧ SelAt B k) (fun i => (intOf i).toNat)
      case atStart => exact ⟨3, by omega, rfl, SelAt.three B⟩
      case round =>
        obtain ⟨k, hk, rfl, hsel⟩ := hrel
        have hk4 : k = 0 ∨ k = 1 ∨ k = 2 ∨ k = 3 := by omega
        rcases hk4 with rfl | rfl | rfl | rfl
        · have hfin := selV_none hsel
          have HF := Lib.hid hfin
          clear hfin
          go_wp2
          go_ret3
          rw [HF.out.1, HF.out.2, HNN.out]
          exact ⟨by rw [HYB.out]; rfl, hbw⟩
        · cases hpp : Lib.hasPrefix B [119] with
          | true =>
            have HC : Hid (∀ w, Calls Tryz.prog 100 #[.string Y, .string { data := #[119] }] w fun e w' => e = .returned (.tuple #[.string ⟨(Lib.trimPrefix B [119]).toArray⟩, .bool true]) ∧ w' = w) := by
              have h := cutPrefix_is Y { data := #[119] } true (by rw [HY.out]; exact hpp)
              rw [HY.out] at h
              exact h
            have hfin := selV_at hsel (.inr (.inr ⟨rfl, rfl⟩)) hpp
            have HF := Lib.hid hfin
            clear hfin
            go_wp2_with (go_at_call 100; (with_reducible refine (HC.out _).mono ?_); rintro e w2 ⟨rfl, rfl⟩)
            go_ret3
            rw [HF.out.1, HF.out.2, HNN.out]
            exact ⟨rfl, hbw⟩
          | false =>
            have HC : Hid (∀ w, Calls Tryz.prog 100 #[.string Y, .string { data := #[119] }] w fun e w' => e = .returned (.tuple #[.string ⟨(Lib.trimPrefix B [119]).toArray⟩, .bool false]) ∧ w' = w) := by
              have h := cutPrefix_is Y { data := #[119] } false (by rw [HY.out]; exact hpp)
              rw [HY.out] at h
              exact h
            go_wp2_with (go_at_call 100; (with_reducible refine (HC.out _).mono ?_); rintro e w2 ⟨rfl, rfl⟩)
            go_round
            case rel => exact ⟨0, by omega, by go_num, fun _ => hsel.1 (by omega), fun _ => hsel.2.1 (by omega), fun _ => hpp⟩
            case measure => simp [intOf]
        · cases hpp : Lib.hasPrefix B [119, 50] with
          | true =>
            have HC : Hid (∀ w, Calls Tryz.prog 100 #[.string Y, .string { data := #[119, 50] }] w fun e w' => e = .returned (.tuple #[.string ⟨(Lib.trimPrefix B [119, 50]).toArray⟩, .bool true]) ∧ w' = w) := by
              have h := cutPrefix_is Y { data := #[119, 50] } true (by rw [HY.out]; exact hpp)
              rw [HY.out] at h
              exact h
            have hfin := selV_at hsel (.inr (.inl ⟨rfl, rfl⟩)) hpp
            have HF := Lib.hid hfin
            clear hfin
            go_wp2_with (go_at_call 100; (with_reducible refine (HC.out _).mono ?_); rintro e w2 ⟨rfl, rfl⟩)
            go_ret3
            rw [HF.out.1, HF.out.2, HNN.out]
            exact ⟨rfl, hbw⟩
          | false =>
            have HC : Hid (∀ w, Calls Tryz.prog 100 #[.string Y, .string { data := #[119, 50] }] w fun e w' => e = .returned (.tuple #[.string ⟨(Lib.trimPrefix B [119, 50]).toArray⟩, .bool false]) ∧ w' = w) := by
              have h := cutPrefix_is Y { data := #[119, 50] } false (by rw [HY.out]; exact hpp)
              rw [HY.out] at h
              exact h
            go_wp2_with (go_at_call 100; (with_reducible refine (HC.out _).mono ?_); rintro e w2 ⟨rfl, rfl⟩)
            go_round
            case rel => exact ⟨1, by omega, by go_num, fun _ => hsel.1 (by omega), fun _ => hpp, fun h => absurd h (by omega)⟩
            case measure => simp [intOf]
        · cases hpp : Lib.hasPrefix B [119, 51] with
          | true =>
            have HC : Hid (∀ w, Calls Tryz.prog 100 #[.string Y, .string { data := #[119, 51] }] w fun e w' => e = .returned (.tuple #[.string ⟨(Lib.trimPrefix B [119, 51]).toArray⟩, .bool true]) ∧ w' = w) := by
              have h := cutPrefix_is Y { data := #[119, 51] } true (by rw [HY.out]; exact hpp)
              rw [HY.out] at h
              exact h
            have hfin := selV_at hsel (.inl ⟨rfl, rfl⟩) hpp
            have HF := Lib.hid hfin
            clear hfin
            go_wp2_with (go_at_call 100; (with_reducible refine (HC.out _).mono ?_); rintro e w2 ⟨rfl, rfl⟩)
            go_ret3
            rw [HF.out.1, HF.out.2, HNN.out]
            exact ⟨rfl, hbw⟩
          | false =>
            have HC : Hid (∀ w, Calls Tryz.prog 100 #[.string Y, .string { data := #[119, 51] }] w fun e w' => e = .returned (.tuple #[.string ⟨(Lib.trimPrefix B [119, 51]).toArray⟩, .bool false]) ∧ w' = w) := by
              have h := cutPrefix_is Y { data := #[119, 51] } false (by rw [HY.out]; exact hpp)
              rw [HY.out] at h
              exact h
            go_wp2_with (go_at_call 100; (with_reducible refine (HC.out _).mono ?_); rintro e w2 ⟨rfl, rfl⟩)
            go_round
            case rel => exact ⟨2, by omega, by go_num, fun _ => hpp, fun h => absurd h (by omega), fun h => absurd h (by omega)⟩
            case measure => simp [intOf]
    · have hz' : ((len : Int) == 0) = false := by rw [beq_eq_false_iff_ne]; omega
      rw [if_neg hz] at hn
      have HNN := Lib.hid hn
      clear hn hz
      go_enter Tryz.func103, Tryz.ntmps103
      go_wp2_with fail
      refine (HP.out _).mono ?_
      rintro e w' ⟨rfl, rfl⟩
      go_wp2_with fail
      refine (HT.out _).mono ?_
      rintro e w' ⟨rfl, rfl⟩
      go_wp2_with fail
      refine (HD.out _).mono ?_
      rintro e w1 ⟨rfl, hbw⟩
      go_wp2_with fail
      obtain ⟨Y, hY⟩ : ∃ Y, Y = R.extract len R.size := ⟨_, rfl⟩
      rw [← hY]
      have hY1 : Y.data.toList = B := by
        rw [hY, Lib.extract_data, HB.out]
        exact List.take_of_length_le (by rw [List.length_drop, ← Lib.size_eq]; exact Nat.le_refl _)
      have HY := Lib.hid hY1
      clear hY1
      have HYB : Hid (Y = ⟨B.toArray⟩) := by rw [← HY.out]; rfl
      clear hY
      have q1 := ((bcell hbw).1 _ _ hN0).trans m1
      have q2 := ((bcell hbw).1 _ _ hN0).trans m2
      have q3 := ((bcell hbw).1 _ _ hN0).trans m3
      go_loop [9] (fun i => ∃ k : Nat, k ≤ 3 ∧ i = .int .i64 k ∧ SelAt B k) (fun i => (intOf i).toNat)
      case atStart => exact ⟨3, by omega, rfl, SelAt.three B⟩
      case round =>
        obtain ⟨k, hk, rfl, hsel⟩ := hrel
        have hk4 : k = 0 ∨ k = 1 ∨ k = 2 ∨ k = 3 := by omega
        rcases hk4 with rfl | rfl | rfl | rfl
        · have hfin := selV_none hsel
          have HF := Lib.hid hfin
          clear hfin
          go_wp2
          go_ret3
          rw [HF.out.1, HF.out.2, HNN.out]
          exact ⟨by rw [HYB.out]; rfl, hbw⟩
        · cases hpp : Lib.hasPrefix B [119] with
          | true =>
            have HC : Hid (∀ w, Calls Tryz.prog 100 #[.string Y, .string { data := #[119] }] w fun e w' => e = .returned (.tuple #[.string ⟨(Lib.trimPrefix B [119]).toArray⟩, .bool true]) ∧ w' = w) := by
              have h := cutPrefix_is Y { data := #[119] } true (by rw [HY.out]; exact hpp)
              rw [HY.out] at h
              exact h
            have hfin := selV_at hsel (.inr (.inr ⟨rfl, rfl⟩)) hpp
            have HF := Lib.hid hfin
            clear hfin
            go_wp2_with (go_at_call 100; (with_reducible refine (HC.out _).mono ?_); rintro e w2 ⟨rfl, rfl⟩)
            go_ret3
            rw [HF.out.1, HF.out.2, HNN.out]
            exact ⟨rfl, hbw⟩
          | false =>
            have HC : Hid (∀ w, Calls Tryz.prog 100 #[.string Y, .string { data := #[119] }] w fun e w' => e = .returned (.tuple #[.string ⟨(Lib.trimPrefix B [119]).toArray⟩, .bool false]) ∧ w' = w) := by
              have h := cutPrefix_is Y { data := #[119] } false (by rw [HY.out]; exact hpp)
              rw [HY.out] at h
              exact h
            go_wp2_with (go_at_call 100; (with_reducible refine (HC.out _).mono ?_); rintro e w2 ⟨rfl, rfl⟩)
            go_round
            case rel => exact ⟨0, by omega, by go_num, fun _ => hsel.1 (by omega), fun _ => hsel.2.1 (by omega), fun _ => hpp⟩
            case measure => simp [intOf]
        · cases hpp : Lib.hasPrefix B [119, 50] with
          | true =>
            have HC : Hid (∀ w, Calls Tryz.prog 100 #[.string Y, .string { data := #[119, 50] }] w fun e w' => e = .returned (.tuple #[.string ⟨(Lib.trimPrefix B [119, 50]).toArray⟩, .bool true]) ∧ w' = w) := by
              have h := cutPrefix_is Y { data := #[119, 50] } true (by rw [HY.out]; exact hpp)
              rw [HY.out] at h
              exact h
            have hfin := selV_at hsel (.inr (.inl ⟨rfl, rfl⟩)) hpp
            have HF := Lib.hid hfin
            clear hfin
            go_wp2_with (go_at_call 100; (with_reducible refine (HC.out _).mono ?_); rintro e w2 ⟨rfl, rfl⟩)
            go_ret3
            rw [HF.out.1, HF.out.2, HNN.out]
            exact ⟨rfl, hbw⟩
          | false =>
            have HC : Hid (∀ w, Calls Tryz.prog 100 #[.string Y, .string { data := #[119, 50] }] w fun e w' => e = .returned (.tuple #[.string ⟨(Lib.trimPrefix B [119, 50]).toArray⟩, .bool false]) ∧ w' = w) := by
              have h := cutPrefix_is Y { data := #[119, 50] } false (by rw [HY.out]; exact hpp)
              rw [HY.out] at h
              exact h
            go_wp2_with (go_at_call 100; (with_reducible refine (HC.out _).mono ?_); rintro e w2 ⟨rfl, rfl⟩)
            go_round
            case rel => exact ⟨1, by omega, by go_num, fun _ => hsel.1 (by omega), fun _ => hpp, fun h => absurd h (by omega)⟩
            case measure => simp [intOf]
        · cases hpp : Lib.hasPrefix B [119, 51] with
          | true =>
            have HC : Hid (∀ w, Calls Tryz.prog 100 #[.string Y, .string { data := #[119, 51] }] w fun e w' => e = .returned (.tuple #[.string ⟨(Lib.trimPrefix B [119, 51]).toArray⟩, .bool true]) ∧ w' = w) := by
              have h := cutPrefix_is Y { data := #[119, 51] } true (by rw [HY.out]; exact hpp)
              rw [HY.out] at h
              exact h
            have hfin := selV_at hsel (.inl ⟨rfl, rfl⟩) hpp
            have HF := Lib.hid hfin
            clear hfin
            go_wp2_with (go_at_call 100; (with_reducible refine (HC.out _).mono ?_); rintro e w2 ⟨rfl, rfl⟩)
            go_ret3
            rw [HF.out.1, HF.out.2, HNN.out]
            exact ⟨rfl, hbw⟩
          | false =>
            have HC : Hid (∀ w, Calls Tryz.prog 100 #[.string Y, .string { data := #[119, 51] }] w fun e w' => e = .returned (.tuple #[.string ⟨(Lib.trimPrefix B [119, 51]).toArray⟩, .bool false]) ∧ w' = w) := by
              have h := cutPrefix_is Y { data := #[119, 51] } false (by rw [HY.out]; exact hpp)
              rw [HY.out] at h
              exact h
            go_wp2_with (go_at_call 100; (with_reducible refine (HC.out _).mono ?_); rintro e w2 ⟨rfl, rfl⟩)
            go_round
            case rel => exact ⟨2, by omega, by go_num, fun _ => hpp, fun h => absurd h (by omega), fun h => absurd h (by omega)⟩
            case measure => simp [intOf]
end Go.Proofs.YtcdmcndjbajhlaaGreatDoor
namespace Go.Proofs.YtcdmcndjbajhlaaGreatDoor
open Go.RowKit Go.Shelf

structure C4 where
  A : Int
  B : Int
  C : Int
  D : Int
abbrev C4.v (c : C4) : Value := .agg #[.int .i64 c.A, .int .i64 c.B, .int .i64 c.C, .int .i64 c.D]
def C4.set (c : C4) (i : Nat) (n : Int) : C4 := if i = 0 then { c with A := n } else if i = 1 then { c with B := n } else if i = 2 then { c with C := n } else { c with D := n }
abbrev c40 : C4 := ⟨0, 0, 0, 0⟩
def nextT (l : List UInt8) : List UInt8 := selR (tmB l)
def rts : Nat → List UInt8 → C4 → C4 × Bool
  | 0, _, c => (c, true)
  | f + 1, l, c => if l.isEmpty = true then (c, true) else if (nextT l).length = l.length then (c40, false) else rts f (nextT l) (c.set (selI (tmB l)) (tmN l))
theorem nextT_len (l : List UInt8) : (nextT l).length ≤ l.length := by
  have h1 := selR_len (tmB l)
  have h2 := tmRest_len l
  have h3 : (tmB l).length = (tmRest l).length - (tmD l).2 := by unfold tmB; exact List.length_drop
  unfold nextT
  omega
theorem rts_fuel : ∀ (f g : Nat) (l : List UInt8) (c : C4), l.length ≤ f → l.length ≤ g → rts f l c = rts g l c
  | 0, 0, _, _, _, _ => rfl
  | 0, g + 1, l, c, h, _ => by
    have : l = [] := List.eq_nil_of_length_eq_zero (by omega)
    subst this
    simp [rts]
  | f + 1, 0, l, c, _, h => by
    have : l = [] := List.eq_nil_of_length_eq_zero (by omega)
    subst this
    simp [rts]
  | f + 1, g + 1, l, c, h1, h2 => by
    simp only [rts]
    split
    · rfl
    · split
      · rfl
      · rename_i hn
        have := nextT_len l
        exact rts_fuel f g _ _ (by omega) (by omega)
def readT (l : List UInt8) (c : C4) : C4 × Bool := rts l.length l c
theorem readT_nil {l : List UInt8} (c : C4) (h : l.isEmpty = true) : readT l c = (c, true) := by
  have : l = [] := List.isEmpty_iff.1 h
  subst this
  rfl
theorem readT_bad {l : List UInt8} (c : C4) (h : l.isEmpty = false) (hl : (nextT l).length = l.length) : readT l c = (c40, false) := by
  cases l with
  | nil => simp at h
  | cons a t =>
    show rts (t.length + 1) (a :: t) c = _
    rw [rts, if_neg (by simp), if_pos hl]
theorem readT_step {l : List UInt8} (c : C4) (h : l.isEmpty = false) (hl : ¬ (nextT l).length = l.length) : readT l c = readT (nextT l) (c.set (selI (tmB l)) (tmN l)) := by
  cases l with
  | nil => simp at h
  | cons a t =>
    have h3 := nextT_len (a :: t)
    show rts (t.length + 1) (a :: t) c = _
    rw [rts, if_neg (by simp), if_neg hl]
    simp only [List.length_cons] at hl h3
    exact rts_fuel _ _ _ _ (by omega) (Nat.le_refl _)

def Quad (w : World) (b T : Nat) (c : C4) : Prop := w.heap[b]? = some (.cells #[.int .i64 c.A, .int .i64 c.B, .int .i64 c.C, .int .i64 c.D] T (0, 0))
theorem Quad.cell {w : World} {b T : Nat} {c : C4} (h : Quad w b T c) :
    w.cell? ⟨b, 0, none⟩ = some (.int .i64 c.A) ∧ w.cell? ⟨b, 1, none⟩ = some (.int .i64 c.B) ∧ w.cell? ⟨b, 2, none⟩ = some (.int .i64 c.C) ∧ w.cell? ⟨b, 3, none⟩ = some (.int .i64 c.D) := by
  unfold Quad at h
  simp [World.cell?, h]
theorem Quad.free {w : World} {b T : Nat} {c : C4} (h : Quad w b T c) :
    w.frozen? ⟨b, 0, none⟩ = false ∧ w.frozen? ⟨b, 1, none⟩ = false ∧ w.frozen? ⟨b, 2, none⟩ = false ∧ w.frozen? ⟨b, 3, none⟩ = false := by
  unfold Quad at h
  simp [World.frozen?, h]
theorem Quad.below {w w' : World} {b B T : Nat} {c : C4} (h : Quad w b T c) (ho : Below B w w') (hn : b < B) : Quad w' b T c := by
  unfold Quad; rw [ho.block b hn]; exact h
theorem Quad.setOther {w : World} {b b' o T : Nat} {c : C4} {v : Value} (h : Quad w b T c) (hn : b ≠ b') : Quad (w.setCell ⟨b', o, none⟩ v) b T c := by
  unfold Quad; rw [Below.heap_setCell _ _ _ _ hn]; exact h
theorem Quad.put {w : World} {b T : Nat} {c : C4} (h : Quad w b T c) (i : Nat) (hi : i ≤ 3) (n : Int) : Quad (w.setCell ⟨b, i, none⟩ (.int .i64 n)) b T (c.set i n) := by
  have h1 := heap_set (o := i) (v := .int .i64 n) h
  have hk : i = 0 ∨ i = 1 ∨ i = 2 ∨ i = 3 := by omega
  rcases hk with rfl | rfl | rfl | rfl <;> exact h1
theorem Quad.lt {w : World} {b T : Nat} {c : C4} (h : Quad w b T c) : b < w.heap.size := by
  rcases Nat.lt_or_ge b w.heap.size with h' | h'
  · exact h'
  · simp [Quad, Array.getElem?_eq_none h'] at h

set_option maxHeartbeats 4000000 in
theorem readTerms_any (s : ByteArray) (w : World) (hs : s.size < 4294967281) (hN : NamesAre w) :
    Calls Tryz.prog 66 #[.string s] w (Gives (.tuple #[(readT s.data.toList c40).1.v, .bool (readT s.data.toList c40).2]) w) := by
  obtain ⟨R, hR⟩ : ∃ R, R = readT s.data.toList c40 := ⟨_, rfl⟩
  have HR := Lib.hid hR
  rw [← hR]
  clear hR
  have HNN := Lib.hid hN
  clear hN
  go_enter Tryz.func66, Tryz.ntmps66
  go_wp2_with fail
  go_loopw [0] (fun t wr => ∃ (X : ByteArray) (c : C4), t = .string X ∧ X.size ≤ s.size ∧ Below w.heap.size w wr ∧ Quad wr w.heap.size 44 c40 ∧ Quad wr (w.heap.size + 1) 44 c ∧ Hid (R = readT X.data.toList c)) (fun t _ => match t with | .string X => X.size | _ => 0)
  case atStart =>
    have hb1 : Quad (w.alloc (.cells #[.int .i64 0, .int .i64 0, .int .i64 0, .int .i64 0] 44)) w.heap.size 44 c40 := heap_alloc_new w _
    have hb2 := heap_alloc_new (w.alloc (.cells #[.int .i64 0, .int .i64 0, .int .i64 0, .int .i64 0] 44)) (.cells #[.int .i64 0, .int .i64 0, .int .i64 0, .int .i64 0] 44)
    rw [World.size_alloc] at hb2
    exact ⟨s, c40, rfl, Nat.le_refl _, (by repeat (first | with_reducible exact Below.refl _ _ | with_reducible refine below_al ?_ _ | with_reducible refine below_dN ?_ _ | with_reducible refine Below.drew ?_ | (with_reducible refine Below.setCell ?_ (by simp <;> omega) _) | (with_reducible refine below_via (by assumption) ?_))), by unfold Quad; rw [← hb1]; exact heap_alloc_old _ _ (by simp), hb2, HR⟩
  case round =>
    obtain ⟨X, c, rfl, hX, hwr, hB2, hB4, HK⟩ := hrel
    have hXl : X.size = X.data.toList.length := Lib.size_eq X
    have htl : X.toList.isEmpty = X.data.toList.isEmpty := by rw [Lib.toList_data]
    cases he : X.data.toList.isEmpty with
    | true =>
      rw [he] at htl
      have hre := HK.out.trans (readT_nil c he)
      have HRE := Lib.hid hre
      clear hre HK he hXl
      obtain ⟨c0, c1, c2, c3⟩ := hB4.cell
      obtain ⟨d0, d1, d2, d3⟩ := hB2.cell
      obtain ⟨f0, f1, f2, f3⟩ := hB2.free
      have hlt := hB4.lt
      go_wp2_with fail
      exact bodyPost_ret (v := .tuple #[c.v, .bool true]) (by simp [results, Tryz.results66, go_sem, d0, d1, d2, d3, f0, f1, f2, f3]) rfl ⟨by rw [HRE.out], (by repeat (first | with_reducible exact Below.refl _ _ | with_reducible refine below_al ?_ _ | with_reducible refine below_dN ?_ _ | with_reducible refine Below.drew ?_ | (with_reducible refine Below.setCell ?_ (by simp <;> omega) _) | (with_reducible refine below_via (by assumption) ?_)))⟩
    | false =>
      rw [he] at htl
      have HT : Hid (∀ w', Below w.heap.size w w' → Calls Tryz.prog 103 #[.string X] w' (Gives (.tuple #[.int .i64 (selI (tmB X.data.toList)), .int .i64 (tmN X.data.toList), .string ⟨(nextT X.data.toList).toArray⟩]) w')) :=
        fun w' hb => readTerm_any X w' (by omega) (HNN.out.below hb)
      have hnl := nextT_len X.data.toList
      have hnn := tm_num X.data.toList
      have hsz := size_mk (nextT X.data.toList)
      have hid : (⟨(nextT X.data.toList).toArray⟩ : ByteArray).data.toList = nextT X.data.toList := rfl
      by_cases hl : (nextT X.data.toList).length = X.data.toList.length
      · have hre := HK.out.trans (readT_bad c he hl)
        have HRE := Lib.hid hre
        generalize (⟨(nextT X.data.toList).toArray⟩ : ByteArray) = Y at *
        have hq : ((Y.size : Int) == (X.size : Int)) = true := by rw [beq_iff_eq]; omega
        generalize selI (tmB X.data.toList) = i at *
        generalize tmN X.data.toList = n at *
        clear hre HK he hXl hl hnl hid hsz
        go_wp2_with fail
        refine (HT.out _ hwr).mono ?_
        rintro e w2 ⟨rfl, hb⟩
        have hw2 : Below w.heap.size w w2 := below_via hb hwr
        have hB22 := hB2.below hb (by have := hB2.lt; omega)
        obtain ⟨d0, d1, d2, d3⟩ := hB22.cell
        obtain ⟨f0, f1, f2, f3⟩ := hB22.free
        have hlt := hB22.lt
        go_wp2_with fail
        exact bodyPost_ret (v := .tuple #[c40.v, .bool false]) (by simp [results, Tryz.results66, go_sem, d0, d1, d2, d3, f0, f1, f2, f3]) rfl ⟨by rw [HRE.out], (by repeat (first | with_reducible exact Below.refl _ _ | with_reducible refine below_al ?_ _ | with_reducible refine below_dN ?_ _ | with_reducible refine Below.drew ?_ | (with_reducible refine Below.setCell ?_ (by simp <;> omega) _) | (with_reducible refine below_via (by assumption) ?_)))⟩
      · have hre := HK.out.trans (readT_step c he hl)
        have hi := selI_le (tmB X.data.toList)
        generalize (⟨(nextT X.data.toList).toArray⟩ : ByteArray) = Y at *
        rw [← hid] at hre
        have hq : ((Y.size : Int) == (X.size : Int)) = false := by rw [beq_eq_false_iff_ne]; omega
        have hlt : Y.size < X.size := by omega
        generalize selI (tmB X.data.toList) = i at *
        generalize tmN X.data.toList = n at *
        have HRE := Lib.hid hre
        clear hre HK he hXl hl hnl hid hsz
        have hi4 : i = 0 ∨ i = 1 ∨ i = 2 ∨ i = 3 := by omega
        rcases hi4 with rfl | rfl | rfl | rfl
        · go_wp2_with fail
          refine (HT.out _ hwr).mono ?_
          rintro e w2 ⟨rfl, hb⟩
          have hw2 : Below w.heap.size w w2 := below_via hb hwr
          have hB22 := hB2.below hb (by have := hB2.lt; omega)
          have hB42 := hB4.below hb (by have := hB4.lt; omega)
          obtain ⟨d0, d1, d2, d3⟩ := hB42.cell
          obtain ⟨f0, f1, f2, f3⟩ := hB42.free
          have hlt4 := hB42.lt
          go_wp2_with fail
          go_roundw
          case rel => exact ⟨Y, c.set 0 n, rfl, by omega, (by repeat (first | with_reducible exact Below.refl _ _ | with_reducible refine below_al ?_ _ | with_reducible refine below_dN ?_ _ | with_reducible refine Below.drew ?_ | (with_reducible refine Below.setCell ?_ (by simp <;> omega) _) | (with_reducible refine below_via (by assumption) ?_))), hB22.setOther (by omega), hB42.put 0 (by omega) n, HRE⟩
          case measure => exact hlt
        · go_wp2_with fail
          refine (HT.out _ hwr).mono ?_
          rintro e w2 ⟨rfl, hb⟩
          have hw2 : Below w.heap.size w w2 := below_via hb hwr
          have hB22 := hB2.below hb (by have := hB2.lt; omega)
          have hB42 := hB4.below hb (by have := hB4.lt; omega)
          obtain ⟨d0, d1, d2, d3⟩ := hB42.cell
          obtain ⟨f0, f1, f2, f3⟩ := hB42.free
          have hlt4 := hB42.lt
          go_wp2_with fail
          go_roundw
          case rel => exact ⟨Y, c.set 1 n, rfl, by omega, (by repeat (first | with_reducible exact Below.refl _ _ | with_reducible refine below_al ?_ _ | with_reducible refine below_dN ?_ _ | with_reducible refine Below.drew ?_ | (with_reducible refine Below.setCell ?_ (by simp <;> omega) _) | (with_reducible refine below_via (by assumption) ?_))), hB22.setOther (by omega), hB42.put 1 (by omega) n, HRE⟩
          case measure => exact hlt
        · go_wp2_with fail
          refine (HT.out _ hwr).mono ?_
          rintro e w2 ⟨rfl, hb⟩
          have hw2 : Below w.heap.size w w2 := below_via hb hwr
          have hB22 := hB2.below hb (by have := hB2.lt; omega)
          have hB42 := hB4.below hb (by have := hB4.lt; omega)
          obtain ⟨d0, d1, d2, d3⟩ := hB42.cell
          obtain ⟨f0, f1, f2, f3⟩ := hB42.free
          have hlt4 := hB42.lt
          go_wp2_with fail
          go_roundw
          case rel => exact ⟨Y, c.set 2 n, rfl, by omega, (by repeat (first | with_reducible exact Below.refl _ _ | with_reducible refine below_al ?_ _ | with_reducible refine below_dN ?_ _ | with_reducible refine Below.drew ?_ | (with_reducible refine Below.setCell ?_ (by simp <;> omega) _) | (with_reducible refine below_via (by assumption) ?_))), hB22.setOther (by omega), hB42.put 2 (by omega) n, HRE⟩
          case measure => exact hlt
        · go_wp2_with fail
          refine (HT.out _ hwr).mono ?_
          rintro e w2 ⟨rfl, hb⟩
          have hw2 : Below w.heap.size w w2 := below_via hb hwr
          have hB22 := hB2.below hb (by have := hB2.lt; omega)
          have hB42 := hB4.below hb (by have := hB4.lt; omega)
          obtain ⟨d0, d1, d2, d3⟩ := hB42.cell
          obtain ⟨f0, f1, f2, f3⟩ := hB42.free
          have hlt4 := hB42.lt
          go_wp2_with fail
          go_roundw
          case rel => exact ⟨Y, c.set 3 n, rfl, by omega, (by repeat (first | with_reducible exact Below.refl _ _ | with_reducible refine below_al ?_ _ | with_reducible refine below_dN ?_ _ | with_reducible refine Below.drew ?_ | (with_reducible refine Below.setCell ?_ (by simp <;> omega) _) | (with_reducible refine below_via (by assumption) ?_))), hB22.setOther (by omega), hB42.put 3 (by omega) n, HRE⟩
          case measure => exact hlt
end Go.Proofs.YtcdmcndjbajhlaaGreatDoor
namespace Go.Proofs.YtcdmcndjbajhlaaGreatDoor
open Go.RowKit Go.Shelf
attribute [local go_sem] run_field_num

def parseR (l : List UInt8) : Nm := ⟨(readT (rootT l) c40).1.A, (readT (rootT l) c40).1.B, (readT (rootT l) c40).1.C, (readT (rootT l) c40).1.D, rootK l⟩
def parseO (s : ByteArray) : Bool := rootO s.data.toList && (readT (rootT s.data.toList) c40).2 && decide ((parseR s.data.toList).chk = 0) && ((printT (parseR s.data.toList).least).toList == s.toList)
def parseV (s : ByteArray) : Value := if parseO s = true then .tuple #[(parseR s.data.toList).v, .int .i64 0] else .tuple #[nul.v, .int .i64 4]
theorem rootT_len (l : List UInt8) : (rootT l).length ≤ l.length := by
  unfold rootT
  split
  · exact Nat.le_trans (cut_len _ _).1 (trim_len _ _)
  · exact Nat.le_refl _
theorem parse_no {s : ByteArray} (h : parseO s = false) : parseV s = .tuple #[nul.v, .int .i64 4] := by
  unfold parseV; rw [h]; rfl
theorem parse_yes {s : ByteArray} (h : parseO s = true) : parseV s = .tuple #[(parseR s.data.toList).v, .int .i64 0] := by
  unfold parseV; rw [h]; rfl

set_option maxHeartbeats 4000000 in
theorem Parse_any (s : ByteArray) (w : World) (hs : s.size < 4294967281) (hN : NamesAre w) (hV : CutVar w) (htab : Lib.TabIs Tryz.prog w "internal/strconv.uint64pow10" .u64 Lib.pow10Tab) :
    Calls Tryz.prog 22 #[.string s] w (Gives (parseV s) w) := by
  have hsl : s.size = s.data.toList.length := Lib.size_eq s
  have hrl := rootT_len s.data.toList
  have HC : Hid (∀ w', Below w.heap.size w w' → Calls Tryz.prog 65 #[.string s] w' (Gives (.tuple #[.string ⟨(rootT s.data.toList).toArray⟩, .int .i64 (rootK s.data.toList), .bool (rootO s.data.toList)]) w')) :=
    fun w' hb => cutRoot_any s w' hs (hV.below hb)
  have HT : Hid (∀ w', Below w.heap.size w w' → Calls Tryz.prog 66 #[.string ⟨(rootT s.data.toList).toArray⟩] w' (Gives (.tuple #[(readT (rootT s.data.toList) c40).1.v, .bool (readT (rootT s.data.toList) c40).2]) w')) :=
    fun w' hb => readTerms_any _ w' (by rw [size_mk]; omega) (hN.below hb)
  have HP : Hid (∀ w', Below w.heap.size w w' → Calls Tryz.prog 6 #[(parseR s.data.toList).v] w' (Gives (.tuple #[.string (if (parseR s.data.toList).chk = 0 then printT (parseR s.data.toList).least else { data := #[] }), .int .i64 (parseR s.data.toList).chk]) w')) :=
    fun w' hb => Print_any _ _ _ _ _ w' (hN.below hb) (Lib.tabBelow_of_tabIs htab w' hb)
  have hR : parseR s.data.toList = ⟨(readT (rootT s.data.toList) c40).1.A, (readT (rootT s.data.toList) c40).1.B, (readT (rootT s.data.toList) c40).1.C, (readT (rootT s.data.toList) c40).1.D, rootK s.data.toList⟩ := rfl
  have hO : parseO s = (rootO s.data.toList && (readT (rootT s.data.toList) c40).2 && decide ((parseR s.data.toList).chk = 0) && ((printT (parseR s.data.toList).least).toList == s.toList)) := rfl
  have hy := @parse_yes s
  have hn := @parse_no s
  clear hN hV htab hsl hrl
  generalize parseR s.data.toList = r at *
  generalize (⟨(rootT s.data.toList).toArray⟩ : ByteArray) = T at *
  generalize readT (rootT s.data.toList) c40 = cc at *
  generalize rootK s.data.toList = k at *
  generalize rootO s.data.toList = o at *
  generalize parseO s = po at *
  generalize parseV s = pv at *
  subst hR
  obtain ⟨⟨A, B, C, D⟩, ok⟩ := cc
  dsimp only at *
  cases o with
  | false =>
    rw [hn (by rw [hO]; rfl)]
    clear hy hn hO
    go_enter Tryz.func22, Tryz.ntmps22
    go_wp2_with fail
    refine (HC.out _ (by repeat (first | with_reducible exact Below.refl _ _ | with_reducible refine below_al ?_ _ | with_reducible refine below_dN ?_ _ | with_reducible refine Below.drew ?_ | (with_reducible refine Below.setCell ?_ (by simp <;> omega) _) | (with_reducible refine below_via (by assumption) ?_)))).mono ?_
    rintro e w1 ⟨rfl, hb⟩
    obtain ⟨hc, hf⟩ := bcell hb
    go_wp2_with fail
    exact bodyPost_ret (v := .tuple #[nul.v, .int .i64 4]) (by simp [results, Tryz.results22, go_sem, hc, hf]) rfl ⟨rfl, (by repeat (first | with_reducible exact Below.refl _ _ | with_reducible refine below_al ?_ _ | with_reducible refine below_dN ?_ _ | with_reducible refine Below.drew ?_ | (with_reducible refine Below.setCell ?_ (by simp <;> omega) _) | (with_reducible refine below_via (by assumption) ?_)))⟩
  | true =>
    cases ok with
    | false =>
      rw [hn (by rw [hO]; rfl)]
      clear hy hn hO
      go_enter Tryz.func22, Tryz.ntmps22
      go_wp2_with fail
      refine (HC.out _ (by repeat (first | with_reducible exact Below.refl _ _ | with_reducible refine below_al ?_ _ | with_reducible refine below_dN ?_ _ | with_reducible refine Below.drew ?_ | (with_reducible refine Below.setCell ?_ (by simp <;> omega) _) | (with_reducible refine below_via (by assumption) ?_)))).mono ?_
      rintro e w1 ⟨rfl, hb⟩
      have hw1 : Below w.heap.size w w1 := (by repeat (first | with_reducible exact Below.refl _ _ | with_reducible refine below_al ?_ _ | with_reducible refine below_dN ?_ _ | with_reducible refine Below.drew ?_ | (with_reducible refine Below.setCell ?_ (by simp <;> omega) _) | (with_reducible refine below_via (by assumption) ?_)))
      have hbx0 : Box w1 w.heap.size 23 nul := by
        have h := box_new w 0 0 0 0 0 23
        exact h.below hb (by simp)
      have HBX := Lib.hid hbx0
      clear hbx0
      go_wp2_with fail
      refine (HT.out _ hw1).mono ?_
      rintro e w2 ⟨rfl, hb2⟩
      have hw2 : Below w.heap.size w w2 := below_via hb2 hw1
      have hbx2 := HBX.out.below hb2 HBX.out.lt
      obtain ⟨z0, z1, z2, z3, z4⟩ := hbx2.cell
      obtain ⟨f0, f1, f2, f3, f4⟩ := hbx2.free
      have hlt := hbx2.lt
      clear hbx2
      dsimp only at z0 z1 z2 z3 z4
      go_wp2_with fail
      exact bodyPost_ret (v := .tuple #[nul.v, .int .i64 4]) (by simp [results, Tryz.results22, go_sem, z0, z1, z2, z3, z4, hlt]) rfl ⟨rfl, (by repeat (first | with_reducible exact Below.refl _ _ | with_reducible refine below_al ?_ _ | with_reducible refine below_dN ?_ _ | with_reducible refine Below.drew ?_ | (with_reducible refine Below.setCell ?_ (by simp <;> omega) _) | (with_reducible refine below_via (by assumption) ?_)))⟩
    | true =>
      have hck : Nm.chk ⟨A, B, C, D, k⟩ = chk A B C D k := rfl
      rw [hck] at hO HP
      generalize chk A B C D k = q at *
      clear hck
      by_cases hq : q = 0
      · subst hq
        rw [if_pos rfl] at HP
        generalize printT (Nm.least ⟨A, B, C, D, k⟩) = pt at *
        cases ht : (pt.toList == s.toList) with
        | true =>
          rw [ht] at hO
          rw [hy (by rw [hO]; rfl)]
          have ht2 : (pt.toList != s.toList) = false := by simp [bne, ht]
          clear hy hn hO
          have hend : True := trivial
          go_enter Tryz.func22, Tryz.ntmps22
          go_wp2_with fail
          refine (HC.out _ (by repeat (first | with_reducible exact Below.refl _ _ | with_reducible refine below_al ?_ _ | with_reducible refine below_dN ?_ _ | with_reducible refine Below.drew ?_ | (with_reducible refine Below.setCell ?_ (by simp <;> omega) _) | (with_reducible refine below_via (by assumption) ?_)))).mono ?_
          rintro e w1 ⟨rfl, hb⟩
          have hw1 : Below w.heap.size w w1 := (by repeat (first | with_reducible exact Below.refl _ _ | with_reducible refine below_al ?_ _ | with_reducible refine below_dN ?_ _ | with_reducible refine Below.drew ?_ | (with_reducible refine Below.setCell ?_ (by simp <;> omega) _) | (with_reducible refine below_via (by assumption) ?_)))
          have hbx0 : Box w1 w.heap.size 23 nul := by
            have h := box_new w 0 0 0 0 0 23
            exact h.below hb (by simp)
          have HBX := Lib.hid hbx0
          clear hbx0
          go_wp2_with fail
          refine (HT.out _ hw1).mono ?_
          rintro e w2 ⟨rfl, hb2⟩
          have hw2 : Below w.heap.size w w2 := below_via hb2 hw1
          have HBX2 := Lib.hid (HBX.out.below hb2 HBX.out.lt)
          go_wp2_with fail
          refine (over_any _ _ _ _ _ _).mono ?_
          rintro e w3 ⟨rfl, hb3⟩
          have hw3 : Below w.heap.size w w3 := below_via hb3 (below_al hw2 _)
          have HBX3 : Hid (Box w3 w.heap.size 23 nul) := (box_al HBX2.out _).below hb3 (by simp; have := HBX2.out.lt; omega)
          go_wp2_with fail
          obtain ⟨V, hV⟩ : ∃ V, w3.alloc (Obj.cells #[.int .i64 A, .int .i64 B, .int .i64 C, .int .i64 D, .int .i64 k] 23) = V := ⟨_, rfl⟩
          have hVw : Below w.heap.size w V := by rw [← hV]; exact below_al hw3 _
          have hVx : Box V w3.heap.size 23 ⟨A, B, C, D, k⟩ := by rw [← hV]; exact heap_alloc_new w3 _
          have HBX4 : Hid (Box V w.heap.size 23 nul) := by rw [← hV]; exact box_al HBX3.out _
          rw [hV]
          clear hV
          refine (HP.out _ hVw).mono ?_
          rintro e w5 ⟨rfl, hb5⟩
          have hw5 : Below w.heap.size w w5 := below_via hb5 hVw
          have hx5 := hVx.below hb5 hVx.lt
          have hz5 := HBX4.out.below hb5 HBX4.out.lt
          obtain ⟨x0, x1, x2, x3, x4⟩ := hx5.cell
          obtain ⟨z0, z1, z2, z3, z4⟩ := hz5.cell
          obtain ⟨f0, f1, f2, f3, f4⟩ := hz5.free
          have hlt := hz5.lt
          have hlt2 := hx5.lt
          dsimp only at x0 x1 x2 x3 x4 z0 z1 z2 z3 z4
          clear hx5 hz5 hVx
          go_wp2_with fail
          exact bodyPost_ret (v := .tuple #[nv A B C D k, .int .i64 0]) (by simp [results, Tryz.results22, go_sem, z0, z1, z2, z3, z4, hlt]) rfl ⟨rfl, (by repeat (first | with_reducible exact Below.refl _ _ | with_reducible refine below_al ?_ _ | with_reducible refine below_dN ?_ _ | with_reducible refine Below.drew ?_ | (with_reducible refine Below.setCell ?_ (by simp <;> omega) _) | (with_reducible refine below_via (by assumption) ?_)))⟩
        | false =>
          rw [ht] at hO
          rw [hn (by rw [hO]; rfl)]
          have ht2 : (pt.toList != s.toList) = true := by simp [bne, ht]
          clear hy hn hO
          have hend : True := trivial
          go_enter Tryz.func22, Tryz.ntmps22
          go_wp2_with fail
          refine (HC.out _ (by repeat (first | with_reducible exact Below.refl _ _ | with_reducible refine below_al ?_ _ | with_reducible refine below_dN ?_ _ | with_reducible refine Below.drew ?_ | (with_reducible refine Below.setCell ?_ (by simp <;> omega) _) | (with_reducible refine below_via (by assumption) ?_)))).mono ?_
          rintro e w1 ⟨rfl, hb⟩
          have hw1 : Below w.heap.size w w1 := (by repeat (first | with_reducible exact Below.refl _ _ | with_reducible refine below_al ?_ _ | with_reducible refine below_dN ?_ _ | with_reducible refine Below.drew ?_ | (with_reducible refine Below.setCell ?_ (by simp <;> omega) _) | (with_reducible refine below_via (by assumption) ?_)))
          have hbx0 : Box w1 w.heap.size 23 nul := by
            have h := box_new w 0 0 0 0 0 23
            exact h.below hb (by simp)
          have HBX := Lib.hid hbx0
          clear hbx0
          go_wp2_with fail
          refine (HT.out _ hw1).mono ?_
          rintro e w2 ⟨rfl, hb2⟩
          have hw2 : Below w.heap.size w w2 := below_via hb2 hw1
          have HBX2 := Lib.hid (HBX.out.below hb2 HBX.out.lt)
          go_wp2_with fail
          refine (over_any _ _ _ _ _ _).mono ?_
          rintro e w3 ⟨rfl, hb3⟩
          have hw3 : Below w.heap.size w w3 := below_via hb3 (below_al hw2 _)
          have HBX3 : Hid (Box w3 w.heap.size 23 nul) := (box_al HBX2.out _).below hb3 (by simp; have := HBX2.out.lt; omega)
          go_wp2_with fail
          obtain ⟨V, hV⟩ : ∃ V, w3.alloc (Obj.cells #[.int .i64 A, .int .i64 B, .int .i64 C, .int .i64 D, .int .i64 k] 23) = V := ⟨_, rfl⟩
          have hVw : Below w.heap.size w V := by rw [← hV]; exact below_al hw3 _
          have hVx : Box V w3.heap.size 23 ⟨A, B, C, D, k⟩ := by rw [← hV]; exact heap_alloc_new w3 _
          have HBX4 : Hid (Box V w.heap.size 23 nul) := by rw [← hV]; exact box_al HBX3.out _
          rw [hV]
          clear hV
          refine (HP.out _ hVw).mono ?_
          rintro e w5 ⟨rfl, hb5⟩
          have hw5 : Below w.heap.size w w5 := below_via hb5 hVw
          have hx5 := hVx.below hb5 hVx.lt
          have hz5 := HBX4.out.below hb5 HBX4.out.lt
          obtain ⟨x0, x1, x2, x3, x4⟩ := hx5.cell
          obtain ⟨z0, z1, z2, z3, z4⟩ := hz5.cell
          obtain ⟨f0, f1, f2, f3, f4⟩ := hz5.free
          have hlt := hz5.lt
          have hlt2 := hx5.lt
          dsimp only at x0 x1 x2 x3 x4 z0 z1 z2 z3 z4
          clear hx5 hz5 hVx
          go_wp2_with fail
          exact bodyPost_ret (v := .tuple #[nul.v, .int .i64 4]) (by simp [results, Tryz.results22, go_sem, z0, z1, z2, z3, z4, hlt]) rfl ⟨rfl, (by repeat (first | with_reducible exact Below.refl _ _ | with_reducible refine below_al ?_ _ | with_reducible refine below_dN ?_ _ | with_reducible refine Below.drew ?_ | (with_reducible refine Below.setCell ?_ (by simp <;> omega) _) | (with_reducible refine below_via (by assumption) ?_)))⟩
      · rw [if_neg hq] at HP
        have hq2 : (q != 0) = true := bne_iff_ne.2 hq
        rw [hn (by rw [hO]; simp [hq])]
        clear hy hn hO
        have hend : True := trivial
        go_enter Tryz.func22, Tryz.ntmps22
        go_wp2_with fail
        refine (HC.out _ (by repeat (first | with_reducible exact Below.refl _ _ | with_reducible refine below_al ?_ _ | with_reducible refine below_dN ?_ _ | with_reducible refine Below.drew ?_ | (with_reducible refine Below.setCell ?_ (by simp <;> omega) _) | (with_reducible refine below_via (by assumption) ?_)))).mono ?_
        rintro e w1 ⟨rfl, hb⟩
        have hw1 : Below w.heap.size w w1 := (by repeat (first | with_reducible exact Below.refl _ _ | with_reducible refine below_al ?_ _ | with_reducible refine below_dN ?_ _ | with_reducible refine Below.drew ?_ | (with_reducible refine Below.setCell ?_ (by simp <;> omega) _) | (with_reducible refine below_via (by assumption) ?_)))
        have hbx0 : Box w1 w.heap.size 23 nul := by
          have h := box_new w 0 0 0 0 0 23
          exact h.below hb (by simp)
        have HBX := Lib.hid hbx0
        clear hbx0
        go_wp2_with fail
        refine (HT.out _ hw1).mono ?_
        rintro e w2 ⟨rfl, hb2⟩
        have hw2 : Below w.heap.size w w2 := below_via hb2 hw1
        have HBX2 := Lib.hid (HBX.out.below hb2 HBX.out.lt)
        go_wp2_with fail
        refine (over_any _ _ _ _ _ _).mono ?_
        rintro e w3 ⟨rfl, hb3⟩
        have hw3 : Below w.heap.size w w3 := below_via hb3 (below_al hw2 _)
        have HBX3 : Hid (Box w3 w.heap.size 23 nul) := (box_al HBX2.out _).below hb3 (by simp; have := HBX2.out.lt; omega)
        go_wp2_with fail
        obtain ⟨V, hV⟩ : ∃ V, w3.alloc (Obj.cells #[.int .i64 A, .int .i64 B, .int .i64 C, .int .i64 D, .int .i64 k] 23) = V := ⟨_, rfl⟩
        have hVw : Below w.heap.size w V := by rw [← hV]; exact below_al hw3 _
        have hVx : Box V w3.heap.size 23 ⟨A, B, C, D, k⟩ := by rw [← hV]; exact heap_alloc_new w3 _
        have HBX4 : Hid (Box V w.heap.size 23 nul) := by rw [← hV]; exact box_al HBX3.out _
        rw [hV]
        clear hV
        refine (HP.out _ hVw).mono ?_
        rintro e w5 ⟨rfl, hb5⟩
        have hw5 : Below w.heap.size w w5 := below_via hb5 hVw
        have hx5 := hVx.below hb5 hVx.lt
        have hz5 := HBX4.out.below hb5 HBX4.out.lt
        obtain ⟨x0, x1, x2, x3, x4⟩ := hx5.cell
        obtain ⟨z0, z1, z2, z3, z4⟩ := hz5.cell
        obtain ⟨f0, f1, f2, f3, f4⟩ := hz5.free
        have hlt := hz5.lt
        have hlt2 := hx5.lt
        dsimp only at x0 x1 x2 x3 x4 z0 z1 z2 z3 z4
        clear hx5 hz5 hVx
        go_wp2_with fail
        exact bodyPost_ret (v := .tuple #[nul.v, .int .i64 4]) (by simp [results, Tryz.results22, go_sem, z0, z1, z2, z3, z4, hlt]) rfl ⟨rfl, (by repeat (first | with_reducible exact Below.refl _ _ | with_reducible refine below_al ?_ _ | with_reducible refine below_dN ?_ _ | with_reducible refine Below.drew ?_ | (with_reducible refine Below.setCell ?_ (by simp <;> omega) _) | (with_reducible refine below_via (by assumption) ?_)))⟩
end Go.Proofs.YtcdmcndjbajhlaaGreatDoor
