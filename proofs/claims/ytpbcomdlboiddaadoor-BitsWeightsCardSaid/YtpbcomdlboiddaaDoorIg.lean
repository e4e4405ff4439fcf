
/- The reference of bits: all members of a span. -/
import Derived.Test.YtpbcomdlboiddaaDoorId
import Derived.Test.YtpbcomdlboiddaaDoorIm
import Derived.Test.YtpbcomdlboiddaaDoorBg
set_option linter.all false
set_option maxRecDepth 100000
namespace Go.Proofs.YtpbcomdlboiddaaDoor
open Go.RowKit

theorem membersR_lt {R : List Nat} {n : Nat} (h : ∀ x ∈ R, x < 2 ^ n) : ∀ x ∈ membersR R, x < 2 ^ n := fun x hx => ((members_span R x).1 hx).lt h
theorem membersR_len : ∀ R : List Nat, (membersR R).length = 2 ^ R.length := fun R => by
  have : ∀ (R o : List Nat), (R.foldl (fun out r => out ++ out.map (· ^^^ r)) o).length = o.length * 2 ^ R.length := by
    intro R
    induction R with
    | nil => intro o; simp
    | cons r R ih => intro o; rw [List.foldl_cons, ih]; simp [Nat.pow_succ]; rw [← Nat.two_mul, Nat.mul_comm 2, Nat.mul_assoc, Nat.mul_comm 2]
  unfold membersR
  rw [this]
  simp
theorem membersR_take {R : List Nat} {k r : Nat} (h : R[k]? = some r) : membersR (R.take (k + 1)) = membersR (R.take k) ++ (membersR (R.take k)).map (· ^^^ r) := by
  obtain ⟨hk, rfl⟩ := List.getElem?_eq_some_iff.1 h
  rw [List.take_succ_eq_append_getElem hk, membersR_snoc]
/-- The list so far, in a block of the call's own. -/
structure InMem (w : World) (g n c : Nat) (M : List Nat) (wr : World) : Prop where
  bel : Below w.heap.size w wr
  own : Mine wr w.heap.size (.slice (some ⟨g, 0, none⟩) n c) (casts M)
theorem InMem.len {w wr : World} {g n c : Nat} {M : List Nat} (h : InMem w g n c M wr) : n = M.length := by have := h.own.some_.1; rwa [casts_len] at this
/-- The snapshot's cells. -/
def Snap (w : World) (g : Nat) (M : List Nat) : Prop := ∀ j x, M[j]? = some x → w.cell? ⟨g, j, none⟩ = some (.int .i64 ((x : Nat) : Int))
theorem InMem.snap {w wr : World} {g n c : Nat} {M : List Nat} (h : InMem w g n c M wr) : Snap wr g M := fun _ _ hx => h.own.cell (casts_at hx)
theorem Snap.call {w w' : World} {g : Nat} {M : List Nat} (h : Snap w g M) (hb : Below w.heap.size w w') : Snap w' g M := fun j x hx => by
  have := h j x hx
  have hlt := World.block_lt_of_cell? w _ this
  rw [hb.cell (p := ⟨g, j, none⟩) hlt]; exact this
theorem Snap.still {w w' : World} {g g2 n : Nat} {M : List Nat} (h : Snap w g M) (hs : StillAt w w' g2 n) (hn : M.length ≤ n) : Snap w' g M := fun j x hx => hs _ _ _ (h j x hx) (fun _ => by have := (List.getElem?_eq_some_iff.1 hx).1; omega)
theorem InMem.al {w wr : World} {g n c : Nat} {M : List Nat} (h : InMem w g n c M wr) (o : Obj) : InMem w g n c M (wr.alloc o) := ⟨below_via ((Below.refl _ wr).alloc (Nat.le_refl _) o) h.bel, Mine.call h.own ((Below.refl _ wr).alloc (Nat.le_refl _) o)⟩
theorem InMem.put {w wr wx : World} {g g2 n c c2 x : Nat} {M : List Nat} (h : InMem w g n c M wr) (hm : Mine wx w.heap.size (.slice (some ⟨g2, 0, none⟩) (n + 1) c2) (casts M ++ [(x : Int)])) (hg : wr.grownBy wx (some g)) : InMem w g2 (n + 1) c2 (M ++ [x]) wx :=
  ⟨h.bel.grown hg h.bel.size (fun k hk => by have := h.own.some_.2.1; cases hk; exact this), by
    have e : casts (M ++ [x]) = casts M ++ [(x : Int)] := by simp [casts]
    rw [e]; exact hm⟩
theorem map_take_xor {M : List Nat} {j x : Nat} (h : M[j]? = some x) (r : Nat) (O : List Nat) : (O ++ (M.take j).map (· ^^^ r)) ++ [x ^^^ r] = O ++ (M.take (j + 1)).map (· ^^^ r) := by
  obtain ⟨hk, rfl⟩ := List.getElem?_eq_some_iff.1 h
  rw [List.take_succ_eq_append_getElem hk, List.map_append, List.append_assoc]
  rfl
set_option maxHeartbeats 4000000 in
theorem rf_Members (R : List Nat) (hR : R.length ≤ 24) (hx : ∀ x ∈ R, x < R24) (p : Option Addr) (cap : Nat) (w : World) (h : Ints w p (casts R)) :
    Calls Tryd.prog 100 #[.slice p R.length cap] w (Lists (membersR R) w) := by
  have HI := Lib.hid h
  have hlen : ∀ k, (membersR (R.take k)).length ≤ 16777216 := fun k => by
    rw [membersR_len]
    have h1 : (R.take k).length ≤ 24 := by rw [List.length_take]; omega
    have h2 : 2 ^ (R.take k).length ≤ 2 ^ 24 := Nat.pow_le_pow_right (by omega) h1
    exact h2
  have hlt : ∀ k, ∀ x ∈ membersR (R.take k), x < R24 := fun k x hx' => by
    have h1 := membersR_lt (R := R.take k) (n := 24) (fun y hy => by have := hx y (List.mem_of_mem_take hy); unfold R24 at this; exact this) x hx'
    unfold R24; exact h1
  have hnext : ∀ k r, R[k]? = some r → membersR (R.take (k + 1)) = membersR (R.take k) ++ (membersR (R.take k)).map (· ^^^ r) := fun k r => membersR_take
  have h0 : membersR (R.take 0) = [0] := by simp [membersR]
  have hall : membersR (R.take R.length) = membersR R := by rw [List.take_length]
  have HS : Hid (InMem w w.heap.size 1 1 [0] (w.alloc (.cells #[.int .i64 0] 3))) := ⟨(Below.refl _ w).alloc (Nat.le_refl _) _, rfl, .inr ⟨w.heap.size, 1, #[.int .i64 0], rfl, Nat.le_refl _, heap_alloc_new w _, Nat.le_refl _, by unfold maxLen; omega, rfl, rfl⟩⟩
  rw [← hall]
  rw [← h0] at HS
  clear h h0 hall
  obtain ⟨F, hF⟩ : ∃ F : Nat → List Nat, ∀ k, membersR (R.take k) = F k := ⟨_, fun _ => rfl⟩
  simp only [hF] at hlen hlt hnext HS ⊢
  clear hF
  have HLen := Lib.hid hlen
  have HLt := Lib.hid hlt
  have HNext := Lib.hid hnext
  clear hlen hlt hnext
  go_enter Tryd.func100, Tryd.ntmps100
  go_wp2_with fail
  go_loopw [3, 11] (fun vo vi wr => ∃ (k g n c : Nat), k ≤ R.length ∧ vo = .slice (some ⟨g, 0, none⟩) n c ∧ vi = .int .i64 k ∧ Hid (InMem w g n c (F k) wr)) (fun _ vi _ => R.length - (intOf vi).toNat)
  case atStart => exact ⟨0, _, _, _, by omega, rfl, rfl, HS.out⟩
  case round =>
    obtain ⟨k, g, n, c, hk, rfl, rfl, HM⟩ := hrel
    clear HS
    by_cases hlk : k < R.length
    · obtain ⟨r, hrk⟩ : ∃ r, R[k]? = some r := ⟨_, List.getElem?_eq_getElem hlk⟩
      obtain ⟨bk, off, rfl, hbb, hcx⟩ := (HI.out.below HM.out.bel).at_ (casts_at hrk)
      have hr24 := hx r (List.mem_of_getElem? hrk)
      have HN := Lib.hid (HNext.out k r hrk)
      have hM6 := HLen.out k
      have HMlt := Lib.hid (HLt.out k)
      obtain ⟨M, hMk⟩ : ∃ M, F k = M := ⟨_, rfl⟩
      rw [hMk] at HM HN hM6 HMlt
      clear hMk hrk
      have hn := HM.out.len
      have hnc : n ≤ c := by have := HM.out.own.some_.2.2.2.1; rw [casts_len] at this; omega
      have HMl := Lib.hid hn
      rw [← hn] at hM6
      have HP0 : Hid (InMem w g n c (M ++ (M.take 0).map (· ^^^ r)) wr) := by rw [List.take_zero, List.map_nil, List.append_nil]; exact HM.out
      have HQ0 := Lib.hid HM.out.snap
      have hgl := HM.out.own.some_.2.2.1
      clear hn HM
      go_wp2_with fail
      go_loopw [3, 22] (fun vo vj wx => ∃ (j g2 n2 c2 : Nat), j ≤ n ∧ Hid (n2 = n + j) ∧ vo = .slice (some ⟨g2, 0, none⟩) n2 c2 ∧ vj = .int .i64 j ∧ Hid (InMem w g2 n2 c2 (M ++ (M.take j).map (· ^^^ r)) wx) ∧ Hid (Snap wx g M)) (fun _ vj _ => n - (intOf vj).toNat)
      case atStart => exact ⟨0, g, n, c, by omega, Lib.hid rfl, rfl, rfl, HP0.out, HQ0.out⟩
      case round =>
        obtain ⟨j, g2, n2, c2, hj, hn2, rfl, rfl, HP, HQ⟩ := hrel
        clear HP0 HQ0
        by_cases hlj : j < n
        · obtain ⟨x, hxj⟩ : ∃ x, M[j]? = some x := ⟨_, List.getElem?_eq_getElem (by have := HMl.out; omega)⟩
          have hcx2 := HQ.out j x hxj
          have hx24 := HMlt.out x (List.mem_of_getElem? hxj)
          have hxor := i64_xor_nat x r (Nat.lt_of_lt_of_le hx24 (by decide)) (Nat.lt_of_lt_of_le hr24 (by decide))
          have HN2 := Lib.hid (map_take_xor hxj r M)
          have hMO : M.length ≤ (M ++ (M.take j).map (· ^^^ r)).length := by simp
          clear hxj
          generalize (x ^^^ r) = y at *
          generalize M ++ (M.take j).map (· ^^^ r) = O at *
          have hOl := HP.out.len
          have HO5 := Lib.hid (Mine.call HP.out.own ((Below.refl _ wr).alloc (Nat.le_refl _) (.cells #[.int .i64 (y : Int)] 3)))
          have HC1 := Lib.hid (cell1_new wr (y : Int) 3)
          have hBB : w.heap.size ≤ (wr.alloc (.cells #[.int .i64 (y : Int)] 3)).heap.size := by rw [World.size_alloc]; have := HP.out.bel.size; omega
          have hLL : (casts O).length ≤ 100000000 := by rw [casts_len]; have := hn2.out; omega
          have hnO : n2 = (casts O).length := by rw [casts_len]; exact hOl
          have HBB := Lib.hid hBB
          have HLL := Lib.hid hLL
          have HnO := Lib.hid hnO
          have HMO := Lib.hid hMO
          have HOl := Lib.hid hOl
          have HP5 := Lib.hid (HP.out.al (.cells #[.int .i64 (y : Int)] 3))
          have HQ5 : Hid (Snap (wr.alloc (.cells #[.int .i64 (y : Int)] 3)) g M) := HQ.out.call ((Below.refl _ wr).alloc (Nat.le_refl _) _)
          clear hBB hLL hnO hMO hOl HP HQ
          go_wp2_with (at_builtin; refine wpList_app_still rfl (.tmp 26) (.tmp 30) rfl w.heap.size g2 n2 c2 (casts O) rfl HnO.out HO5.out HBB.out HLL.out wr.heap.size 1 (y : Int) rfl HC1.out ?_; intro g4 c4 w4 hm4 hg4 hs4)
          have HP6 := Lib.hid (HP5.out.put hm4 hg4)
          rw [HN2.out] at HP6
          have HQ6 := Lib.hid (HQ5.out.still hs4 (by rw [← HnO.out, HOl.out]; exact HMO.out))
          clear hm4 hg4 hs4 HO5 HBB HLL HP5 HQ5 HC1 HN2
          go_wp2_with fail
          go_roundw
          case rel => exact ⟨j + 1, g4, n2 + 1, c4, by omega, Lib.hid (by have := hn2.out; omega), rfl, by go_num, HP6.out, HQ6.out⟩
          case measure => simp [intOf]; omega
        · have hP := HP.out
          rw [List.take_of_length_le (by have := HMl.out; omega), ← HN.out] at hP
          have HP7 := Lib.hid hP
          clear HP HQ hP
          go_wp2_with fail
          go_roundw
          case rel => exact ⟨k + 1, g2, n2, c2, by omega, rfl, by go_num, HP7.out⟩
          case measure => simp [intOf]; omega
    · obtain rfl : k = R.length := by omega
      go_wp2_with fail
      go_ret
      exact ⟨_, rfl, HM.out.bel, HM.out.own⟩
end Go.Proofs.YtpbcomdlboiddaaDoor
