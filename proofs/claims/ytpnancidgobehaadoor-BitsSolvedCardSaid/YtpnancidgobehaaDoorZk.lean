/- Rows of bits: what two spans have in common. -/
import Derived.Test.YtpnancidgobehaaDoorVn
import Derived.Laws.AppendOwnNone
set_option linter.all false
set_option maxRecDepth 100000
namespace Go.Proofs.YtpnancidgobehaaDoor
open Go.RowKit

def TransposeM (xs : List Int) (n : Int) : List Nat × Int := if checkM xs n = 0 then (if 1 ≤ xs.length ∧ xs.length ≤ 16 then (transposedM (nats xs) n.toNat, 0) else ([], 7)) else ([], checkM xs n)
section
variable (xs : List Int) (n : Int) (p : Option Addr) (cap : Nat) (w : World) (h : Ints w p xs) (hm : xs.length ≤ 9223372036854775807)
include h hm
set_option maxHeartbeats 1000000 in
theorem bt_Transpose : Calls Tryd.prog 32 #[.slice p xs.length cap, .int .i64 n] w (ListE (TransposeM xs n).1 (TransposeM xs n).2 w) := by
  have H1 : Hid (Calls Tryd.prog 44 #[.slice p xs.length cap, .int .i64 n] w (Gives (.int .i64 (checkM xs n)) w)) := bt_Check xs n p cap w h hm
  unfold TransposeM
  by_cases hc : checkM xs n = 0
  · have R := right_of hc
    have hlen : xs.length ≤ 24 := by have := R.len; rwa [nats_len] at this
    rw [if_pos hc]
    rw [hc] at H1
    have HT : Hid (∀ w', Below w.heap.size w w' → Calls Tryd.prog 60 #[.slice p xs.length cap, .int .i64 n] w' (fun e w'' => ∃ v, e = .returned v ∧ Mine w'' (w'.heap.size + 1) v (casts (transposedM (nats xs) n.toNat)) ∧ Below w'.heap.size w' w'')) := fun w' hb' => by
      have := bt_transposed (nats xs) (by have := R.len; omega) R.r24 n.toNat R.h16 p cap w' (by have := h.below hb'; rwa [R.hx] at this)
      rwa [nats_len, ← R.hn] at this
    generalize transposedM (nats xs) n.toNat = t at *
    by_cases h1 : xs.length < 1
    · rw [if_neg (by omega)]
      have h1' : (xs.length : Int) < 1 := by omega
      clear hc R h hm HT
      go_enter Tryd.func32, Tryd.ntmps32
      go_wp2_with fail
      refine H1.out.mono ?_
      rintro e w1 ⟨rfl, hb1⟩
      go_wp2_with fail
      go_ret2
      exact ListE.error _ hb1
    · have h1' : ¬ (xs.length : Int) < 1 := by omega
      by_cases h2 : 16 < xs.length
      · rw [if_neg (by omega)]
        have h2' : (16 : Int) < xs.length := by omega
        clear hc R h hm HT
        go_enter Tryd.func32, Tryd.ntmps32
        go_wp2_with fail
        refine H1.out.mono ?_
        rintro e w1 ⟨rfl, hb1⟩
        go_wp2_with fail
        go_ret2
        exact ListE.error _ hb1
      · rw [if_pos (by omega)]
        have h2' : ¬ (16 : Int) < xs.length := by omega
        clear hc R h hm
        go_enter Tryd.func32, Tryd.ntmps32
        go_wp2_with fail
        refine H1.out.mono ?_
        rintro e w1 ⟨rfl, hb1⟩
        go_wp2_with fail
        refine (HT.out _ hb1).mono ?_
        rintro e w2 ⟨v, rfl, h2, hb2⟩
        go_wp2_with fail
        go_ret2
        exact ⟨v, rfl, below_via hb2 hb1, h2.low (by have := hb1.size; omega)⟩
  · rw [if_neg hc]
    have hne : (checkM xs n != 0) = true := bne_iff_ne.2 hc
    generalize checkM xs n = q at *
    clear hc h hm
    go_enter Tryd.func32, Tryd.ntmps32
    go_wp2_with fail
    refine H1.out.mono ?_
    rintro e w1 ⟨rfl, hb1⟩
    go_wp2_with fail
    go_ret2
    exact ListE.error _ hb1
end
def IdentityM (n : Int) : List Nat × Int := if n < 1 ∨ 16 < n then ([], 3) else ((List.range n.toNat).map (2 ^ ·), 0)
set_option maxHeartbeats 1000000 in
theorem bt_Identity (n : Int) (w : World) : Calls Tryd.prog 35 #[.int .i64 n] w (ListE (IdentityM n).1 (IdentityM n).2 w) := by
  unfold IdentityM
  by_cases h1 : n < 1
  · rw [if_pos (.inl h1)]
    go_enter Tryd.func35, Tryd.ntmps35
    go_wp2_with fail
    go_ret2
    exact ListE.error _ (Below.refl _ _)
  · by_cases h2 : 16 < n
    · rw [if_pos (.inr h2)]
      go_enter Tryd.func35, Tryd.ntmps35
      go_wp2_with fail
      go_ret2
      exact ListE.error _ (Below.refl _ _)
    · rw [if_neg (by omega)]
      obtain ⟨m, rfl⟩ : ∃ m : Nat, n = m := ⟨n.toNat, by omega⟩
      rw [show ((m : Int)).toNat = m by omega]
      obtain ⟨R, hR⟩ : ∃ R, (List.range m).map (2 ^ ·) = R := ⟨_, rfl⟩
      unfold ListE
      rw [hR]
      have HR := Lib.hid hR
      clear hR
      go_enter Tryd.func35, Tryd.ntmps35
      go_wp2_with fail
      go_loopw [4, 13] (fun v i wr => ∃ k : Nat, k ≤ m ∧ i = .int .i64 k ∧ Hid (Grow w v ((List.range k).map (2 ^ ·)) wr)) (fun _ i _ => m - (intOf i).toNat)
      case atStart => exact ⟨0, by omega, rfl, Grow.start w⟩
      case round =>
        obtain ⟨k, hk, rfl, HG⟩ := hrel
        have hol : ((List.range k).map (2 ^ ·)).length = k := by simp
        by_cases hlt : k < m
        · have hpw := pow_wrap (k := k) (by omega)
          have hnx : (List.range (k + 1)).map (2 ^ ·) = (List.range k).map (2 ^ ·) ++ [2 ^ k] := by rw [List.range_succ, List.map_append]; rfl
          have HNX := Lib.hid hnx
          have hsz := HG.out.bel.size
          generalize (List.range k).map (2 ^ ·) = out at *
          generalize hq : 2 ^ k = q at *
          clear hnx hq
          have HO := Lib.hid ((HG.out.own).al (.cells #[.int .i64 (q : Int)] 3))
          have HC1 := Lib.hid (cell1_new wr (q : Int) 3)
          have hB : w.heap.size ≤ (wr.alloc (.cells #[.int .i64 (q : Int)] 3)).heap.size := by rw [World.size_alloc]; omega
          have hL : (casts out).length ≤ 1000000 := by rw [casts_len]; omega
          have HB := Lib.hid hB
          have HL := Lib.hid hL
          clear hB hL
          go_wp2_with (at_builtin; refine wpList_app rfl (.tmp 16) (.tmp 19) rfl (w.heap.size) _ (casts out) rfl HO.out HB.out HL.out wr.heap.size 1 (q : Int) rfl HC1.out ?_; intro g4 cap4 w4 hm4 hg4 hat4 hlt4)
          have HG4 := (HG.out.al _).put hm4 hg4
          rw [← HNX.out] at HG4
          have HG5 := Lib.hid HG4
          clear hm4 hg4 hat4 HG HO HC1 HB HL HNX HG4
          go_wp2_with fail
          go_roundw
          case rel => exact ⟨k + 1, by omega, by go_num, HG5⟩
          case measure => simp [intOf]; omega
        · obtain rfl : k = m := by omega
          have hG := HG.out
          rw [HR.out] at hG
          clear HG
          go_wp2_with fail
          go_ret2
          exact ⟨_, rfl, hG⟩
end Go.Proofs.YtpnancidgobehaaDoor
namespace Go.Proofs.YtpnancidgobehaaDoor
open Go.RowKit

section
variable {ops : Array Oper} {o : Oper} {a : Act} {w : World}
theorem wpList_appMany {rest : List Oper} {Q : Exit → Act → World → Prop} (hgd : o.guard = none) (s y : Operand) (ho : o.op = .call { callee := .builtin .append, args := #[s, y], argTypes := #[25, 25] })
    (B : Nat) (v : Value) (xs : List Int) {ys : List Int} (hs : a.eval s = v) (hown : Mine w B v xs) (hB : B ≤ w.heap.size) (hl : xs.length + ys.length ≤ 1000000)
    (u : Value) (hy : a.eval y = u) (B2 : Nat) (hu : Mine w B2 u ys)
    (h : ∀ v' w', Mine w' B v' (xs ++ ys) → w.grownBy w' v.ownBlock → wpList Tryd.prog ops Q rest (a.put o.dst v') w') :
    wpList Tryd.prog ops Q (o :: rest) a w := by
  obtain ⟨i0, hi, hz0, hz1, hz2⟩ := info_parts info_int
  by_cases hn : u = .slice none 0 0
  · have hys : ys = [] := by
      obtain ⟨hl', hh | ⟨g, cap, cur, h1, _⟩⟩ := hu
      · simpa using hh.2
      · rw [hn] at h1; cases h1
    subst hys
    subst hn
    refine wpList_append_own_none hgd s y 25 ho B 3 i0 1 und_ints hi v xs.length (xs.map iv) hs hown hy ?_
    have := h v w (by simpa using hown) (World.grownBy.refl w _)
    simpa using this
  · rcases hu with ⟨hl', hh | ⟨g, cap, cur, h1, h2, h3, h4, h5, h6, h7⟩⟩
    · exact absurd hh.1 hn
    · refine wpList_append_own w hgd s y 25 ho B 3 i0 (.int .i64 0) 1 8 und_ints hi hz0 hz1 hz2 rfl (by decide) v xs.length (xs.map iv) hs hown ⟨g, 0, none⟩ ys.length cap (ys.map iv) (hy.trans h1) (by simp) ?_ ?_ (by unfold maxLen; omega) (by omega) hB ?_
      · intro j z hz
        have hj : j < ys.length := by have := (List.getElem?_eq_some_iff.1 hz).1; simpa using this
        have e : (⟨g, 0, none⟩ : Addr).add j = ⟨g, j, none⟩ := by unfold Addr.add; split <;> simp_all
        rw [e, cell_of_row w g j cur 3 (0, 0) h3]
        rw [← h7, List.getElem?_take_of_lt (by omega)] at hz
        simpa using hz
      · intro z hz
        rw [List.mem_map] at hz
        obtain ⟨x, _, rfl⟩ := hz
        rfl
      · intro v' w' hown' hgrow _
        refine h v' w' ?_ hgrow
        unfold Mine
        rw [List.length_append, List.map_append]
        exact hown'
end
theorem reducedM_lt {A : List Sm} (hA : Small A) : ∀ x ∈ reducedM A, x < R24 := by
  intro x hx
  simp only [reducedM, List.mem_reverse, List.mem_map] at hx
  obtain ⟨y, hy, rfl⟩ := hx
  exact (hA.2 y (List.mem_filter.1 hy).1).1
theorem reducedM_len {A : List Sm} (hA : Small A) : (reducedM A).length ≤ 24 := by
  unfold reducedM
  rw [List.length_reverse, List.length_map]
  exact Nat.le_trans (List.length_filter_le _ _) (Nat.le_of_eq hA.1)
theorem nullM_len {l : List Nat} {n : Nat} (hl : l.length ≤ 24) (hn : n ≤ 16) : (nullM l n).length ≤ n := by
  have := (spanned_ok (transposedM_lt hl n) (by rw [transposedM_len]; omega)).2.1
  rw [transposedM_len] at this
  simpa [nullM] using this
/-- What the rows of a span are made of: of the first m rows alone. -/
def OfBelow (A : List Sm) (m : Nat) : Prop := ∀ y ∈ A, y.of < 2 ^ m
theorem restM_of {A : List Sm} {m : Nat} (hA : OfBelow A m) : ∀ (n k : Nat) (x : Sm), x.of < 2 ^ m → (restM A n k x).of < 2 ^ m
  | 0, _, _, hx => hx
  | n + 1, k, x, hx => by
    unfold restM
    refine restM_of hA n (k + 1) _ ?_
    split
    · refine Nat.xor_lt_two_pow hx ?_
      unfold rowAt
      rw [List.getD_eq_getElem?_getD]
      cases hk : A[k]? with
      | none => exact Nat.two_pow_pos m
      | some y => exact hA y (List.mem_of_getElem? hk)
    · exact hx
theorem OfBelow.up {A : List Sm} {m : Nat} (h : OfBelow A m) : OfBelow A (m + 1) := fun y hy => Nat.lt_of_lt_of_le (h y hy) (Nat.pow_le_pow_right (by omega) (by omega))
theorem stepM_of {S : Sys} {i row : Nat} (hA : OfBelow S.at_ i) (hr : ∀ r ∈ S.rel, r < 2 ^ i) : OfBelow (stepM S i row).at_ (i + 1) ∧ ∀ r ∈ (stepM S i row).rel, r < 2 ^ (i + 1) := by
  have hx : (restM S.at_ 24 0 ⟨row, 2 ^ i⟩).of < 2 ^ (i + 1) := restM_of hA.up _ _ _ (by show 2 ^ i < 2 ^ (i + 1); exact Nat.pow_lt_pow_right (by omega) (by omega))
  have hup : ∀ r ∈ S.rel, r < 2 ^ (i + 1) := fun r h => Nat.lt_of_lt_of_le (hr r h) (Nat.pow_le_pow_right (by omega) (by omega))
  unfold stepM
  split
  · refine ⟨fun y hy => ?_, hup⟩
    rcases List.mem_or_eq_of_mem_set hy with hy | rfl
    · obtain ⟨z, hz, rfl⟩ := List.mem_map.1 hy
      unfold bring1
      split
      · exact Nat.xor_lt_two_pow (hA.up z hz) hx
      · exact hA.up z hz
    · exact hx
  · refine ⟨hA.up, fun r h => ?_⟩
    rcases List.mem_append.1 h with h | h
    · exact hup r h
    · simp at h; rw [h]; exact hx
theorem spanM_of : ∀ (l : List Nat) (i : Nat) (S : Sys), OfBelow S.at_ i → (∀ r ∈ S.rel, r < 2 ^ i) → OfBelow (spanM l i S).at_ (i + l.length) ∧ ∀ r ∈ (spanM l i S).rel, r < 2 ^ (i + l.length)
  | [], i, S, h1, h2 => by simpa [spanM] using ⟨h1, h2⟩
  | r :: l, i, S, h1, h2 => by
    obtain ⟨h3, h4⟩ := stepM_of (row := r) h1 h2
    have := spanM_of l (i + 1) (stepM S i r) h3 h4
    rw [show i + 1 + l.length = i + (r :: l).length by simp; omega] at this
    exact this
theorem spanned_of (l : List Nat) : OfBelow (spanned l).at_ l.length ∧ ∀ r ∈ (spanned l).rel, r < 2 ^ l.length := by
  have := spanM_of l 0 ⟨List.replicate 24 sm0, []⟩ (fun y hy => by rw [List.eq_of_mem_replicate hy]; exact Nat.two_pow_pos _) (by simp)
  simpa [spanned] using this
theorem nullM_lt {l : List Nat} {n : Nat} : ∀ x ∈ nullM l n, x < 2 ^ n := by
  intro x hx
  have := (spanned_of (transposedM l n)).2 x (by simpa [nullM] using hx)
  rwa [transposedM_len] at this
def MeetM (xs ys : List Int) (n : Int) : List Nat := if checkedM xs ys n = 0 then nullM (reducedM (spanned (nullM (nats xs) n.toNat ++ nullM (nats ys) n.toNat)).at_) n.toNat else []
theorem checkedM_ok {xs ys : List Int} {n : Int} (h : checkedM xs ys n = 0) : checkM xs n = 0 ∧ checkM ys n = 0 := by
  unfold checkedM at h
  split at h
  · rename_i h1; exact ⟨h1, h⟩
  · rename_i h1; exact absurd h h1
set_option maxHeartbeats 2000000 in
theorem bt_Meet (xs ys : List Int) (n : Int) (p q : Option Addr) (ca cb : Nat) (w : World) (h : Ints w p xs) (hy : Ints w q ys) (hm : xs.length ≤ 9223372036854775807) (hmy : ys.length ≤ 9223372036854775807) :
    Calls Tryd.prog 36 #[.slice p xs.length ca, .slice q ys.length cb, .int .i64 n] w (ListE (MeetM xs ys n) (checkedM xs ys n) w) := by
  have H1 : Hid (Calls Tryd.prog 53 #[.slice p xs.length ca, .slice q ys.length cb, .int .i64 n] w (Gives (.int .i64 (checkedM xs ys n)) w)) := bt_checked xs ys n p q ca cb w h hy hm hmy
  unfold MeetM
  by_cases hc : checkedM xs ys n = 0
  · obtain ⟨hx0, hy0⟩ := checkedM_ok hc
    have R := right_of hx0
    have S := right_of hy0
    rw [if_pos hc, hc]
    rw [hc] at H1
    have HN1 : Hid (∀ w', Below w.heap.size w w' → Calls Tryd.prog 45 #[.slice p xs.length ca, .int .i64 n] w' (Lists (nullM (nats xs) n.toNat) w')) := fun w' hb => by
      have := bt_null (nats xs) R.len R.r24 n.toNat R.h16 p ca w' (by have := h.below hb; rwa [R.hx] at this)
      rwa [nats_len, ← R.hn] at this
    have HN2 : Hid (∀ w', Below w.heap.size w w' → Calls Tryd.prog 45 #[.slice q ys.length cb, .int .i64 n] w' (Lists (nullM (nats ys) n.toNat) w')) := fun w' hb => by
      have := bt_null (nats ys) S.len S.r24 n.toNat S.h16 q cb w' (by have := hy.below hb; rwa [S.hx] at this)
      rwa [nats_len, ← S.hn] at this
    have h16 := R.h16
    have hnn := R.hn
    have L1 : ∀ x ∈ nullM (nats xs) n.toNat, x < R24 := fun x hx => Nat.lt_of_lt_of_le (nullM_lt x hx) (pow16 (by omega))
    have L2 : ∀ x ∈ nullM (nats ys) n.toNat, x < R24 := fun x hx => Nat.lt_of_lt_of_le (nullM_lt x hx) (pow16 (by omega))
    have N1 := nullM_len (n := n.toNat) R.len h16
    have N2 := nullM_len (n := n.toNat) S.len h16
    generalize nullM (nats xs) n.toNat = A at *
    generalize nullM (nats ys) n.toNat = B at *
    have L3 : ∀ x ∈ A ++ B, x < R24 := fun x hx => by rcases List.mem_append.1 hx with h | h; exact L1 x h; exact L2 x h
    have hlab : (A ++ B).length ≤ 40 := by rw [List.length_append]; omega
    have hab : (casts A).length + (casts B).length ≤ 1000000 := by rw [casts_len, casts_len]; omega
    have HS : Hid (∀ w' p' c', Ints w' p' (casts (A ++ B)) → Calls Tryd.prog 46 #[.slice p' (casts (A ++ B)).length c'] w' (Spans (A ++ B) w')) := fun w' p' c' h' => by
      rw [casts_len]; exact bt_spanned _ L3 hlab p' c' w' h'
    have HOK := Lib.hid (spanned_ok L3 hlab).1
    have HR : Hid (∀ w' b rv, SysAt w' b (spanned (A ++ B)).at_ rv → Calls Tryd.prog 47 #[.pointer (some ⟨b, 0, none⟩)] w' (Lists (reducedM (spanned (A ++ B)).at_) w')) := fun w' b rv h' => bt_reduced _ h'.1 b rv w' h'
    have HN3 : Hid (∀ w' p' c', Ints w' p' (casts (reducedM (spanned (A ++ B)).at_)) → Calls Tryd.prog 45 #[.slice p' (casts (reducedM (spanned (A ++ B)).at_)).length c', .int .i64 n] w' (Lists (nullM (reducedM (spanned (A ++ B)).at_) n.toNat) w')) := fun w' p' c' h' => by
      rw [casts_len]
      have := bt_null (reducedM (spanned (A ++ B)).at_) (reducedM_len HOK.out) (reducedM_lt HOK.out) n.toNat h16 p' c' w' h'
      rwa [← hnn] at this
    have HAB := Lib.hid hab
    clear hc hx0 hy0 R S h hy hm hmy h16 hnn L1 L2 L3 N1 N2 hlab hab HOK
    go_enter Tryd.func36, Tryd.ntmps36
    go_wp2_with fail
    refine H1.out.mono ?_
    rintro e w1 ⟨rfl, hb1⟩
    go_wp2_with fail
    refine (HN1.out _ hb1).mono ?_
    rintro e w2 ⟨v2, rfl, hg2⟩
    have hb2 := below_via hg2.bel hb1
    have HM2 := Lib.hid (hg2.own.low hb1.size)
    clear hg2
    go_wp2_with fail
    refine (HN2.out _ hb2).mono ?_
    rintro e w3 ⟨v3, rfl, hg3⟩
    have hb3 := below_via hg3.bel hb2
    have HM3 := Lib.hid (HM2.out.call hg3.bel)
    have HM4 := Lib.hid (hg3.own)
    have HZ := Lib.hid hb3.size
    clear hg3 HM2
    go_wp2_with (at_builtin; refine wpList_appMany rfl (.tmp 19) (.tmp 22) rfl w.heap.size v2 (casts A) rfl HM3.out HZ.out HAB.out v3 rfl _ HM4.out ?_; intro v4 w4 hm4 hg4)
    have hb4 := below_grown hb3 HM3.out hg4 (Nat.le_refl _) hb3.size
    rw [← casts_append] at hm4
    obtain ⟨p4, c4, rfl, hi4⟩ := hm4.ints
    have HI4 := Lib.hid hi4
    clear hm4 hi4 hg4 HM3 HM4
    refine (HS.out _ _ _ HI4.out).mono ?_
    rintro e w5 ⟨rv, rfl, h1, h2, hb5⟩
    have H5 := Lib.hid h1
    have hb45 := below_via hb5 hb4
    clear h1 h2
    go_wp2_with fail
    refine (HR.out _ _ rv H5.out).mono ?_
    rintro e w6 ⟨v6, rfl, hg6⟩
    have hb6 := below_via hg6.bel hb45
    obtain ⟨p6, c6, rfl, hi6⟩ := hg6.own.ints
    have HI6 := Lib.hid hi6
    clear hg6 hi6
    go_wp2_with fail
    refine (HN3.out _ _ _ HI6.out).mono ?_
    rintro e w7 ⟨v7, rfl, hg7⟩
    go_wp2_with fail
    go_ret2
    exact ⟨v7, rfl, below_via hg7.bel hb6, hg7.own.low hb6.size⟩
  · rw [if_neg hc]
    have hne : (checkedM xs ys n != 0) = true := bne_iff_ne.2 hc
    generalize checkedM xs ys n = q1 at *
    clear hc h hy hm hmy
    go_enter Tryd.func36, Tryd.ntmps36
    go_wp2_with fail
    refine H1.out.mono ?_
    rintro e w1 ⟨rfl, hb1⟩
    go_wp2_with fail
    go_ret2
    exact ListE.error _ hb1
end Go.Proofs.YtpnancidgobehaaDoor
