/- The reference's powers of w for any integer; its Sum of nothing. -/
import Derived.Test.YtcdmcndjbajhlaaGreatDoorTp
import Derived.Test.YtcdmcndjbajhlaaGreatDoorNg
import Derived.Test.YtcdmcndjbajhlaaGreatDoorJe
set_option linter.all false
set_option maxRecDepth 100000
namespace Go.Proofs.YtcdmcndjbajhlaaGreatDoor
open Go.RowKit

def numR : List UInt8 → Int → Nat → Int × Nat
  | [], n, i => (n, i)
  | c :: t, n, i => if isDig c = true then numR t (if 2147483648 < 10 * n + ((c.toNat : Int) - 48) then 2147483648 else 10 * n + ((c.toNat : Int) - 48)) (i + 1) else (n, i)
theorem numR_step (s : ByteArray) (k : Nat) (n : Int) (h : k < s.size) :
    numR (s.data.toList.drop k) n k = if isDig s[k] = true then numR (s.data.toList.drop (k + 1)) (if 2147483648 < 10 * n + ((s[k].toNat : Int) - 48) then 2147483648 else 10 * n + ((s[k].toNat : Int) - 48)) (k + 1) else (n, k) := by
  have h' : k < s.data.toList.length := by simpa using h
  rw [List.drop_eq_getElem_cons h', numR]
  rfl
theorem numR_end (s : ByteArray) (k : Nat) (n : Int) (h : ¬ k < s.size) : numR (s.data.toList.drop k) n k = (n, k) := by
  rw [List.drop_eq_nil_of_le (by simpa using Nat.le_of_not_lt h)]
  rfl
theorem run_min_int2 {P : Program} {w : World} (ts : Array TypeId) (t : TypeId) (k k1 : IntKind) (x y : Int) : (Builtin.min_ ts t #[.int k x, .int k1 y]).run P w = .ok (.int k (if y < x then y else x)) w := by
  simp [Builtin.min_, Builtin.min2]
set_option maxHeartbeats 2000000 in
theorem r_number (s : ByteArray) (a : Nat) (w : World) (hs : s.size ≤ 4294967280) (ha : a ≤ s.size) :
    Calls Tryz.prog 64 #[.string s, .int .i64 a] w (Gives (.tuple #[.int .i64 (numR (s.data.toList.drop a) 0 a).1, .int .i64 (numR (s.data.toList.drop a) 0 a).2]) w) := by
  have hmin := @run_min_int2 Tryz.prog
  obtain ⟨R, hR⟩ : ∃ R, R = numR (s.data.toList.drop a) 0 a := ⟨_, rfl⟩
  rw [← hR]
  have HR := Lib.hid hR
  clear hR
  go_enter Tryz.func64, Tryz.ntmps64
  go_wp2_with fail
  go_loop [1, 6] (fun i n => ∃ (k : Nat) (v : Int), k ≤ s.size ∧ i = .int .i64 k ∧ n = .int .i64 v ∧ (0 ≤ v ∧ v ≤ 2147483648) ∧ Hid (R = numR (s.data.toList.drop k) v k)) (fun i _ => s.size - (intOf i).toNat)
  case atStart => exact ⟨a, 0, ha, rfl, rfl, by omega, HR.out⟩
  case round =>
    obtain ⟨k, v, hk, rfl, rfl, ⟨hv0, hv1⟩, HK⟩ := hrel
    clear HR
    by_cases hlt : k < s.size
    · have hst := numR_step s k v hlt
      by_cases h1 : 48 ≤ (s[k].toNat : Int)
      · by_cases h2 : (s[k].toNat : Int) ≤ 57
        · have hd : isDig s[k] = true := decide_eq_true ⟨h1, h2⟩
          rw [if_pos hd] at hst
          have HN := Lib.hid (HK.out.trans hst)
          clear hst hd HK
          go_wp2_with fail
          all_goals
            go_round
            case rel => exact ⟨k + 1, _, by omega, by go_num, rfl, by split <;> omega, HN.out⟩
            case measure => simp [intOf]; omega
        · have hd : isDig s[k] = false := decide_eq_false (fun h => h2 h.2)
          rw [if_neg (by rw [hd]; simp)] at hst
          have HN := Lib.hid (HK.out.trans hst)
          clear hst hd HK
          go_wp2_with fail
          rw [HN.out]
          go_ret2
          exact ⟨rfl, (by repeat (first | with_reducible exact Below.refl _ _ | with_reducible refine below_al ?_ _ | with_reducible refine below_dN ?_ _ | with_reducible refine Below.drew ?_ | (with_reducible refine Below.setCell ?_ (by simp <;> omega) _) | (with_reducible refine below_via (by assumption) ?_)))⟩
      · have hd : isDig s[k] = false := decide_eq_false (fun h => h1 h.1)
        rw [if_neg (by rw [hd]; simp)] at hst
        have HN := Lib.hid (HK.out.trans hst)
        clear hst hd HK
        go_wp2_with fail
        rw [HN.out]
        go_ret2
        exact ⟨rfl, (by repeat (first | with_reducible exact Below.refl _ _ | with_reducible refine below_al ?_ _ | with_reducible refine below_dN ?_ _ | with_reducible refine Below.drew ?_ | (with_reducible refine Below.setCell ?_ (by simp <;> omega) _) | (with_reducible refine below_via (by assumption) ?_)))⟩
    · have HN := Lib.hid (HK.out.trans (numR_end s k v hlt))
      clear HK
      go_wp2_with fail
      rw [HN.out]
      go_ret2
      exact ⟨rfl, (by repeat (first | with_reducible exact Below.refl _ _ | with_reducible refine below_al ?_ _ | with_reducible refine below_dN ?_ _ | with_reducible refine Below.drew ?_ | (with_reducible refine Below.setCell ?_ (by simp <;> omega) _) | (with_reducible refine below_via (by assumption) ?_)))⟩
end Go.Proofs.YtcdmcndjbajhlaaGreatDoor
namespace Go.Proofs.YtcdmcndjbajhlaaGreatDoor
open Go.RowKit

set_option maxHeartbeats 2000000 in
theorem r_OmegaZ (n : Int) (w : World) (hn0 : -9223372036854775808 ≤ n) (hn1 : n ≤ 9223372036854775807) : Calls Tryz.prog 30 #[.int .i64 n] w (Gives (pw (n % 8).toNat).v w) := by
  obtain ⟨m, hm⟩ : ∃ m : Nat, m = (n % 8).toNat := ⟨_, rfl⟩
  rw [← hm]
  have hm8 : m < 8 := by omega
  have e1 : (n.tmod 8 + 8) % 8 = m := by
    rcases Int.lt_or_le n 0 with h | h
    · have : n.tmod 8 = -((-n) % 8) := by
        have := Int.neg_tmod (a := -n) (b := 8)
        rw [Int.neg_neg] at this
        rw [this, Int.tmod_eq_emod_of_nonneg (by omega)]
      omega
    · rw [Int.tmod_eq_emod_of_nonneg h]; omega
  have e2 : (n % 8 + 8) % 8 = m := by omega
  have hlo : -8 < n.tmod 8 := by
    have := Int.lt_tmod_of_pos n (b := 8) (by omega)
    exact this
  have hhi : n.tmod 8 < 8 := Int.tmod_lt_of_pos n (by omega)
  have e3 : (n.tmod 8 + 8).tmod 8 = m := by rw [Int.tmod_eq_emod_of_nonneg (by omega)]; exact e1
  clear hm
  go_enter Tryz.func30, Tryz.ntmps30
  go_wp2_with fail
  go_loopw [4] (fun i wr => ∃ k : Nat, k ≤ m ∧ i = .int .i64 k ∧ Hid (Box wr w.heap.size 23 nul) ∧ Hid (Box wr (w.heap.size + 1) 23 (pw k)) ∧ Below w.heap.size w wr) (fun i _ => m - (intOf i).toNat)
  case atStart =>
    refine ⟨0, by omega, rfl, box_al (box_new w 0 0 0 0 0 _) _, ?_, (by repeat (first | with_reducible exact Below.refl _ _ | with_reducible refine below_al ?_ _ | with_reducible refine below_dN ?_ _ | with_reducible refine Below.drew ?_ | (with_reducible refine Below.setCell ?_ (by simp <;> omega) _) | (with_reducible refine below_via (by assumption) ?_)))⟩
    have h := box_new (w.alloc (.cells #[.int .i64 0, .int .i64 0, .int .i64 0, .int .i64 0, .int .i64 0] 23)) 1 0 0 0 0 23
    rw [World.size_alloc] at h
    exact h
  case round =>
    obtain ⟨k, hk, rfl, HZ, HX, hwr⟩ := hrel
    obtain ⟨c0, c1, c2, c3, c4⟩ := HX.out.cell
    obtain ⟨f0, f1, f2, f3, f4⟩ := HX.out.free
    obtain ⟨z0, z1, z2, z3, z4⟩ := HZ.out.cell
    obtain ⟨g0, g1, g2, g3, g4⟩ := HZ.out.free
    have hlt := HX.out.lt
    have hltz := HZ.out.lt
    obtain ⟨⟨p1, p2⟩, ⟨p3, p4⟩, ⟨p5, p6⟩, ⟨p7, p8⟩⟩ := pw_le k
    have hK := pw_K k
    rw [hK] at c4
    clear hK
    dsimp only at z0 z1 z2 z3 z4
    by_cases hkn : k < m
    · go_wp2_with fail
      have hbox := box_cells HX.out (pw (k + 1))
      go_roundw
      case rel => exact ⟨k + 1, by omega, by go_num, ((((HZ.out.other (by omega)).other (by omega)).other (by omega)).other (by omega)).other (by omega), hbox, (by repeat (first | with_reducible exact Below.refl _ _ | with_reducible refine below_al ?_ _ | with_reducible refine below_dN ?_ _ | with_reducible refine Below.drew ?_ | (with_reducible refine Below.setCell ?_ (by simp <;> omega) _) | (with_reducible refine below_via (by assumption) ?_)))⟩
      case measure => simp [intOf]; omega
    · have : k = m := by omega
      subst this
      have hv : (pw k).v = nv (pw k).A (pw k).B (pw k).C (pw k).D 0 := by unfold Nm.v; rw [pw_K]
      have HV := Lib.hid hv
      clear hv
      go_wp2_with fail
      rw [HV.out]
      exact bodyPost_ret (v := nv (pw k).A (pw k).B (pw k).C (pw k).D 0) (by simp [results, Tryz.results30, go_sem, z0, z1, z2, z3, z4]) rfl ⟨rfl, (by repeat (first | with_reducible exact Below.refl _ _ | with_reducible refine below_al ?_ _ | with_reducible refine below_dN ?_ _ | with_reducible refine Below.drew ?_ | (with_reducible refine Below.setCell ?_ (by simp <;> omega) _) | (with_reducible refine below_via (by assumption) ?_)))⟩
set_option maxHeartbeats 2000000 in
theorem r_Sum0 (w : World) : Calls Tryz.prog 25 #[.slice none 0 0] w (Gives (.tuple #[nul.v, .int .i64 0]) w) := by
  have HC : Hid (∀ w, Calls Tryz.prog 68 #[.slice none 0 0] w (Gives (.int .i64 0) w)) := fun w => r_checks0 w
  go_enter Tryz.func25, Tryz.ntmps25
  go_wp2_with fail
  refine (HC.out _).mono ?_
  rintro e w1 ⟨rfl, hb⟩
  have hw2 : Below w.heap.size w w1 := below_via hb (by repeat (first | with_reducible exact Below.refl _ _ | with_reducible refine below_al ?_ _ | with_reducible refine below_dN ?_ _ | with_reducible refine Below.drew ?_ | (with_reducible refine Below.setCell ?_ (by simp <;> omega) _) | (with_reducible refine below_via (by assumption) ?_)))
  have hz1 : Box w1 w.heap.size 23 nul := (box_new w 0 0 0 0 0 _).below hb (by simp)
  have HI : Hid (InSum w w1.heap.size nul (w1.alloc (.cells #[.int .i64 0, .int .i64 0, .int .i64 0, .int .i64 0, .int .i64 0] 23))) := ⟨below_al hw2 _, box_al hz1 _, box_new w1 0 0 0 0 0 _, hz1.lt⟩
  clear hb hw2 hz1
  go_wp2_with fail
  generalize w1.heap.size = bs at HI ⊢
  go_loopw [6, 7] (fun e i wr => i = .int .i64 0 ∧ e = .int .i64 0 ∧ Hid (InSum w bs nul wr)) (fun _ i _ => 0)
  case atStart => exact ⟨rfl, rfl, HI.out⟩
  case round =>
    obtain ⟨rfl, rfl, HI⟩ := hrel
    obtain ⟨z0, z1, z2, z3, z4⟩ := HI.out.2.1.cell
    obtain ⟨g0, g1, g2, g3, g4⟩ := HI.out.2.1.free
    obtain ⟨s0, s1, s2, s3, s4⟩ := HI.out.2.2.1.cell
    have hltz := HI.out.2.1.lt
    have hlts := HI.out.2.2.1.lt
    have hw := HI.out.1
    dsimp only at z0 z1 z2 z3 z4 s0 s1 s2 s3 s4
    go_wp2_with fail
    exact bodyPost_ret (v := .tuple #[nul.v, .int .i64 0]) (by simp [results, Tryz.results25, go_sem, z0, z1, z2, z3, z4]) rfl ⟨rfl, by first | exact hw | exact ((((hw.setCell (Nat.le_refl _) _).setCell (Nat.le_refl _) _).setCell (Nat.le_refl _) _).setCell (Nat.le_refl _) _).setCell (Nat.le_refl _) _⟩
end Go.Proofs.YtcdmcndjbajhlaaGreatDoor
