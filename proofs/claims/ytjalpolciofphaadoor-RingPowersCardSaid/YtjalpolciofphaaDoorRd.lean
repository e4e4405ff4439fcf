
/- Digits in front of a text. -/
import Derived.Test.YtjalpolciofphaaDoorBase
import Derived.Laws.RangeAny
set_option linter.all false
set_option maxRecDepth 100000
namespace Go.Proofs.YtjalpolciofphaaDoor
open Go.RowKit

def isDig (c : UInt8) : Bool := decide (48 ≤ (c.toNat : Int) ∧ (c.toNat : Int) ≤ 57)
def rdN : List UInt8 → Int → Nat → Int × Nat
  | [], n, i => (n, i)
  | c :: t, n, i => if n ≤ 1073741824 ∧ isDig c = true then rdN t (10 * n + ((c.toNat : Int) - 48)) (i + 1) else (n, i)
theorem rdN_step (s : ByteArray) (k : Nat) (n : Int) (h : k < s.size) :
    rdN (s.data.toList.drop k) n k = if n ≤ 1073741824 ∧ isDig s[k] = true then rdN (s.data.toList.drop (k + 1)) (10 * n + ((s[k].toNat : Int) - 48)) (k + 1) else (n, k) := by
  have h' : k < s.data.toList.length := by simpa using h
  rw [List.drop_eq_getElem_cons h', rdN]
  rfl
theorem rdN_end (s : ByteArray) (k : Nat) (n : Int) (h : ¬ k < s.size) : rdN (s.data.toList.drop k) n k = (n, k) := by
  rw [List.drop_eq_nil_of_le (by simpa using Nat.le_of_not_lt h)]
  rfl
theorem rdN_len : ∀ (l : List UInt8) (n : Int) (i : Nat), i ≤ (rdN l n i).2 ∧ (rdN l n i).2 ≤ i + l.length
  | [], n, i => by simp [rdN]
  | c :: t, n, i => by
    simp only [rdN, List.length_cons]
    split
    · have := rdN_len t (10 * n + ((c.toNat : Int) - 48)) (i + 1)
      omega
    · simp
theorem rdN_num : ∀ (l : List UInt8) (n : Int) (i : Nat), 0 ≤ n → n ≤ 10737418249 → 0 ≤ (rdN l n i).1 ∧ (rdN l n i).1 ≤ 10737418249
  | [], n, i, h0, h1 => ⟨h0, h1⟩
  | c :: t, n, i, h0, h1 => by
    simp only [rdN]
    split
    · rename_i h
      have hc := h.2
      simp only [isDig, decide_eq_true_eq] at hc
      exact rdN_num t _ (i + 1) (by omega) (by omega)
    · exact ⟨h0, h1⟩

set_option maxHeartbeats 4000000 in
theorem readDigits_any (s : ByteArray) (w : World) (hs : s.size ≤ 9223372036854775807) :
    Calls Tryd.prog 89 #[.string s] w (Gives (.tuple #[.int .i64 (rdN s.data.toList 0 0).1, .int .i64 (rdN s.data.toList 0 0).2]) w) := by
  obtain ⟨R, hR⟩ : ∃ R, R = rdN s.data.toList 0 0 := ⟨_, rfl⟩
  have HR := Lib.hid hR
  rw [← hR]
  clear hR
  go_enter Tryd.func89, Tryd.ntmps89
  go_wp2
  go_step3
  go_wp2
  go_step3
  go_wp2
  go_loopw [4, 5] (fun t t5 wr => ∃ (n : Int) (k : Nat), wr = w.iter s k ∧ t5 = .int .i64 s.size ∧ t = .int .i64 n ∧ 0 ≤ n ∧ n ≤ 10737418249 ∧ k ≤ s.size ∧ Hid (R = rdN (s.data.toList.drop k) n k)) (fun _ _ wr => s.size - wr.iterPos w.heap.size)
  case atStart => exact ⟨0, 0, rfl, rfl, rfl, by omega, by omega, by omega, HR⟩
  case round =>
    obtain ⟨n, k, rfl, rfl, rfl, hn0, hn1, hk, HK⟩ := hrel
    have hbw : Below w.heap.size w (w.iter s k) := below_al (Below.refl _ _) _
    by_cases hp : k < s.size
    · have hnx : ∀ ty, (Instr.next (.pointer (some ⟨w.heap.size, 0, none⟩)) true ty).run Tryd.prog (w.iter s k) = _ := fun ty => run_next_any w s k ty hp
      have hst := rdN_step s k n hp
      by_cases hg : n ≤ 1073741824 ∧ isDig s[k] = true
      · obtain ⟨hg1, hg2⟩ := hg
        rw [if_pos ⟨hg1, hg2⟩] at hst
        have hd := hg2
        simp only [isDig, decide_eq_true_eq] at hd
        have hdec := decode_ascii s k hp (by omega)
        simp only [hdec] at hnx
        obtain ⟨d1, d2⟩ := hd
        have HS := Lib.hid hst
        have hr1 : ((s[k]'hp).toNat : Int) ≤ 255 := by have := (s[k]'hp).toNat_lt; omega
        clear hst hg2 hdec
        generalize (s[k]'hp).toNat = c at *
        go_wp2
        go_roundw
        case rel => exact ⟨10 * n + ((c : Int) - 48), k + 1, rfl, rfl, by go_num, by omega, by omega, by omega, Lib.hid (HK.out.trans HS.out)⟩
        case measure => simp; omega
      · rw [if_neg hg] at hst
        have hre : R = (n, k) := HK.out.trans hst
        have hcase : ¬ n ≤ 1073741824 ∨ ¬ 48 ≤ ((Utf8.decode s k).1 : Int) ∨ ¬ ((Utf8.decode s k).1 : Int) ≤ 57 := by
          by_cases h1 : n ≤ 1073741824
          · right
            by_cases ha : (s[k]'hp).toNat < 128
            · rw [decode_ascii s k hp ha]
              have h2 : ¬ isDig s[k] = true := fun h => hg ⟨h1, h⟩
              simp only [isDig, decide_eq_true_eq] at h2
              omega
            · have := (decode_high s k hp (by omega)).1
              omega
          · exact .inl h1
        have hle := decode_le s k
        have HRE := Lib.hid hre
        clear hst hg hre HK
        generalize (Utf8.decode s k).1 = c at *
        generalize (Utf8.decode s k).2 = d at *
        have hbw2 : Below w.heap.size w (w.iter s (k + d)) := below_al (Below.refl _ _) _
        by_cases h1 : n ≤ 1073741824
        · by_cases h2 : 48 ≤ (c : Int)
          · have h3 : ¬ (c : Int) ≤ 57 := by omega
            go_wp2
            go_ret2
            rw [HRE.out]
            exact ⟨rfl, hbw2⟩
          · go_wp2
            go_ret2
            rw [HRE.out]
            exact ⟨rfl, hbw2⟩
        · go_wp2
          go_ret2
          rw [HRE.out]
          exact ⟨rfl, hbw2⟩
    · have hnx : ∀ ty, (Instr.next (.pointer (some ⟨w.heap.size, 0, none⟩)) true ty).run Tryd.prog (w.iter s k) = _ := fun ty => run_next_end w s k ty hp
      have hre : R = (n, k) := HK.out.trans (rdN_end s k n hp)
      have hks : k = s.size := by omega
      have HRE := Lib.hid hre
      have HKS := Lib.hid hks
      clear hre HK hk hks
      go_wp2
      go_ret2
      rw [HRE.out]
      exact ⟨by rw [HKS.out]; rfl, hbw⟩
end Go.Proofs.YtjalpolciofphaaDoor
