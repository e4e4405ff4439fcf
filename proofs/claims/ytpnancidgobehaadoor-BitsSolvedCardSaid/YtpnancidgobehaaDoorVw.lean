
/- The members of a span, yielded: the iterator's contract. -/
import Derived.Test.YtpnancidgobehaaDoorVv
import Derived.Test.YtpnancidgobehaaDoorZk
import Derived.Test.YtpnancidgobehaaDoorVu
import Derived.TacticsInMore
import Derived.LoopIn
import Derived.OwnWalkIn
set_option linter.all false
set_option maxRecDepth 100000
namespace Go.Proofs.YtpnancidgobehaaDoor
open Go.RowKit Go.Shelf

/-- The member that comes at place i: one row is added from one to the next. -/
def memM (R : List Nat) : Nat → Nat
  | 0 => 0
  | i + 1 => memM R i ^^^ R.getD (Lib.ctz 64 (i + 1)) 0
theorem memM_lt (R : List Nat) (hR : ∀ x ∈ R, x < R24) (i : Nat) : memM R i < R24 := by
  induction i with
  | zero => unfold memM R24; omega
  | succ i ih =>
    unfold memM
    refine (Nat.xor_lt_two_pow (n := 24) ih ?_ : _ < 2 ^ 24)
    rw [List.getD_eq_getElem?_getD]
    cases hg : R[Lib.ctz 64 (i + 1)]? with
    | none => simp
    | some x => exact hR x (List.mem_of_getElem? hg)
theorem ctz_lt {i L : Nat} (h0 : i ≠ 0) (h : i < 2 ^ L) (hL : L ≤ 24) : Lib.ctz 64 i < L := by
  have h64 : 2 ^ L ≤ 2 ^ 24 := Nat.pow_le_pow_right (by omega) hL
  have h3 : i < 2 ^ 64 := Nat.lt_of_lt_of_le h (Nat.le_trans h64 (by decide))
  obtain ⟨m, hm, _⟩ := Lib.ctzFrom_spec 64 i (by omega) h3
  unfold Lib.ctz
  rw [if_neg h0]
  rcases Nat.lt_or_ge (Lib.ctzFrom 64 i) L with h' | h'
  · exact h'
  · have h5 : 2 ^ L ≤ 2 ^ Lib.ctzFrom 64 i := Nat.pow_le_pow_right (by omega) h'
    have h6 : 2 ^ Lib.ctzFrom 64 i * 1 ≤ 2 ^ Lib.ctzFrom 64 i * (2 * m + 1) := Nat.mul_le_mul_left _ (by omega)
    omega
theorem shl1 {L : Nat} (hL : L ≤ 24) : wrap64 (2 ^ min L 64) = ((2 ^ L : Nat) : Int) := by
  have h1 : min L 64 = L := by omega
  rw [h1]
  have h64 : 2 ^ L ≤ 2 ^ 24 := Nat.pow_le_pow_right (by omega) hL
  have h2 : ((2 : Int) ^ L) = ((2 ^ L : Nat) : Int) := by simp
  rw [h2]
  generalize 2 ^ L = q at *
  unfold wrap64
  omega
theorem AbidesS.bel {β : Type} {B : Nat} {J : β → World → Prop} (h : AbidesS B J) {s : β} {W W' : World} (hb : Below W.heap.size W W') (hs : J s W) : J s W' :=
  h s W W' none hs ⟨hb.os, hb.tape, hb.output, hb.size, fun k hk _ => hb.block k hk⟩ (fun r e => by cases e)
abbrev encM (R : List Nat) (i : Nat) : Array Value := #[.int .i64 (memM R i : Int)]
set_option maxHeartbeats 4000000 in
theorem members_stops (A : List Sm) (hA : A.length = 24) (hs : Small A) (b : Nat) (rv : Value) (w : World) (h : SysAt w b A rv) (n : Nat) (hn : 2 ≤ n) :
    BtStops Fence.wide n Tryd.prog 65 #[.pointer (some ⟨b, 0, none⟩)] (TabAt 1 Lib.deBruijn64tab) (encM (reducedM A)) (fun xs => xs = List.range (2 ^ (reducedM A).length)) (fun pre => ∃ j, j < 2 ^ (reducedM A).length ∧ pre = List.range (j + 1)) (2 ^ (reducedM A).length) w := fun l J Jx W hbW hJ hJx hT hY h0 => by
  have HRd : Hid (Calls Tryd.prog 47 #[.pointer (some ⟨b, 0, none⟩)] W (Lists (reducedM A) W)) := bt_reduced A hA b rv W (h.below hbW h.lt)
  have hrl : (reducedM A).length ≤ 24 := reducedM_len hs
  have hr24 : ∀ x ∈ reducedM A, x < R24 := reducedM_lt hs
  have hsh := shl1 hrl
  rw [show min (reducedM A).length 64 = (reducedM A).length by omega] at hsh
  have hz : ∀ k, k ≠ 0 → k < 2 ^ (reducedM A).length → Lib.ctz 64 k < (reducedM A).length := fun k h1 h2 => ctz_lt h1 h2 hrl
  have hN24 : 2 ^ (reducedM A).length ≤ 2 ^ 24 := Nat.pow_le_pow_right (by omega) hrl
  have HT : Hid (∀ x w', x < 18446744073709551616 → TabAt 1 Lib.deBruijn64tab w' → Calls Tryd.prog 84 #[.int .u64 (x : Nat)] w' (Gives (.int .i64 (Lib.ctz 64 x)) w')) := fun x w' hx ht => bt_tz x hx w' ht
  have HA : Hid (∀ (x y : Nat) b w', x < O40 → y < O40 → w'.cell? ⟨b, 0, none⟩ = some (.int .i64 (x : Int)) → w'.cell? ⟨b, 1, none⟩ = some (.int .i64 (y : Int)) → b < w'.heap.size → Calls Tryd.prog 62 #[.slice (some ⟨b, 0, none⟩) 2 2] w' (Gives (.int .i64 ((x ^^^ y : Nat) : Int)) w')) := fun x y b w' hx hy h0 h1 hb => bt_add2 x y b w' hx hy h0 h1 hb
  have HMR : Hid (∀ k, memM (reducedM A) k < R24) := fun k => memM_lt _ hr24 k
  clear hbW h hA hs
  generalize reducedM A = R at *
  generalize 2 ^ R.length = N at *
  refine callsIn_of_wp Tryd.func65 rfl trivial ?_ rfl
  simp only [Tryd.ntmps65, List.size_toArray, List.length_cons, List.length_nil, Nat.reduceAdd, Nat.reduceSub, Array.replicate_succ, Array.replicate_zero, List.push_toArray, List.append_toArray, List.nil_append, List.cons_append]
  gi_wp2
  refine ⟨trivial, fun _ => by omega, callsIn_wide.2 (HRd.out.mono ?_)⟩
  rintro e w1 ⟨v, rfl, hg⟩
  have hJ1 : J [] w1 := hJ.bel hg.bel h0
  have hM := hg.own
  clear hg
  obtain ⟨pr, cr, hv, hi⟩ := hM.ints
  subst hv
  simp only [casts_len] at *
  gi_wp2
  (try rw [show min R.length 64 = R.length by omega])
  (try rw [hsh])
  gi_loopw [5, 12] (fun m i wr => ∃ (k M : Nat), k ≤ N ∧ M = memM R (k - 1) ∧ m = .int .i64 M ∧ i = .int .i64 k ∧ Mine wr W.heap.size (.slice pr R.length cr) (casts R) ∧ J (List.range k) wr) (fun _ i _ => N - (intOf i).toNat)
  case atStart => exact ⟨0, 0, by omega, rfl, rfl, rfl, hM, hJ1⟩
  case round =>
    obtain ⟨k, M, hk, hMe, rfl, rfl, hMk, hJk⟩ := hrel
    by_cases hlt : k < N
    · have hlti : (k : Int) < N := by omega
      have HM := Lib.hid hMk
      have HJ := Lib.hid hJk
      clear hMk hJk
      by_cases hk0 : k = 0
      · subst hk0
        obtain ⟨fn, tmps, assign, body, hy, hR⟩ := hY (List.range 0) 0 wr HJ.out (by simp; omega)
        dsimp only [encM] at hy
        rw [show memM R 0 = M from hMe.symm] at hy
        have HMe := Lib.hid hMe
        clear hMe
        gi_wp2
        refine ⟨fun _ => by omega, hR.mono ?_⟩
        rintro e W3 (⟨rfl, hJ3, hs3⟩ | ⟨rfl, hJx3⟩)
        · have HM3 := Lib.hid (HM.out.kept fun q hq => hs3.2 q (HM.out.lt hq).1 (HM.out.lt hq).2)
          have HJ3 := Lib.hid hJ3
          clear hJ3 hs3
          gi_wp2
          go_roundw
          case rel => exact ⟨1, M, by omega, HMe.out, rfl, by go_num, HM3.out, by rw [List.range_succ]; exact HJ3.out⟩
          case measure => simp [intOf]; omega
        · have HJx := Lib.hid hJx3
          clear hJx3
          gi_wp2
          refine bodyPost_ret (results_none rfl _ _ _) rfl ?_
          exact ⟨⟨_, rfl⟩, .inr ⟨_, ⟨0, by omega, List.range_succ.symm⟩, HJx.out⟩⟩
      · have hki : (0 : Int) < k := by omega
        have hc := hz k hk0 hlt
        have hmk : memM R k = M ^^^ R.getD (Lib.ctz 64 k) 0 := by
          obtain ⟨j, rfl⟩ : ∃ j, k = j + 1 := ⟨k - 1, by omega⟩
          rw [hMe]
          rfl
        have hMl : M < R24 := by rw [hMe]; exact HMR.out _
        obtain ⟨x, hx⟩ : ∃ x, R[Lib.ctz 64 k]? = some x := ⟨_, List.getElem?_eq_getElem hc⟩
        have hx24 := hr24 x (List.mem_of_getElem? hx)
        rw [List.getD_eq_getElem?_getD, hx, Option.getD_some] at hmk
        have HMk := Lib.hid hmk
        have HT0 := Lib.hid (HT.out k wr (by omega) (hT _ _ HJ.out))
        clear hMe hmk
        generalize Lib.ctz 64 k = c at *
        have hcR : (c : Int) < R.length := by omega
        gi_wp2
        refine ⟨trivial, fun _ => by omega, callsIn_wide.2 (HT0.out.mono ?_)⟩
        rintro e w2 ⟨rfl, hb2⟩
        have HM2 := Lib.hid (HM.out.call hb2)
        have HJ2 := Lib.hid (hJ.bel hb2 HJ.out)
        clear HM HJ hb2 HT0
        obtain ⟨p', c', he, hi2⟩ := HM2.out.ints
        obtain ⟨b1, off, hp, hlt1, hcell⟩ := hi2.at_ (k := c) (x := (x : Int)) (by simp [casts, hx])
        subst hp
        obtain ⟨rfl, _, rfl⟩ : pr = some ⟨b1, off, none⟩ ∧ True ∧ cr = c' := by
          simp only [casts_len] at he
          injection he with e1 e2 e3
          exact ⟨e1, trivial, e3⟩
        have HC := Lib.hid hcell
        clear he hi2
        have HX := Lib.hid (fun b w' => HA.out M x b w' (Nat.lt_of_lt_of_le hMl (by decide)) (Nat.lt_of_lt_of_le hx24 (by decide)))
        gi_wp2
        have hl2 : w2.heap.size < (w2.alloc (.cells #[.int .i64 (M : Int), .int .i64 (x : Int)] 3)).heap.size := by simp
        refine ⟨trivial, fun _ => by omega, callsIn_wide.2 ((HX.out w2.heap.size _ (cell_of_row _ _ 0 _ 3 (0, 0) (heap_alloc_new w2 _)) (cell_of_row _ _ 1 _ 3 (0, 0) (heap_alloc_new w2 _)) hl2).mono ?_)⟩
        rintro e w3 ⟨rfl, hb3⟩
        have hb23 : Below w2.heap.size w2 w3 := below_via hb3 (below_al (Below.refl _ w2) _)
        have HM3 := Lib.hid (HM2.out.call hb23)
        have HJ3 := Lib.hid (hJ.bel hb23 HJ2.out)
        clear HM2 HJ2 hb23 hb3 hl2 HX HC
        obtain ⟨fn, tmps, assign, body, hy, hR⟩ := hY (List.range k) k w3 HJ3.out (by simp; omega)
        dsimp only [encM] at hy
        rw [HMk.out] at hy
        obtain ⟨Q, hQ⟩ : ∃ Q, M ^^^ x = Q := ⟨_, rfl⟩
        have HQ := Lib.hid hQ
        rw [hQ] at hy ⊢
        clear hQ
        gi_wp2
        refine ⟨fun _ => by omega, hR.mono ?_⟩
        rintro e W3 (⟨rfl, hJ4, hs4⟩ | ⟨rfl, hJx3⟩)
        · have HM4 := Lib.hid (HM3.out.kept fun q hq => hs4.2 q (HM3.out.lt hq).1 (HM3.out.lt hq).2)
          have HJ4 := Lib.hid hJ4
          clear hJ4 hs4
          gi_wp2
          go_roundw
          case rel => exact ⟨k + 1, Q, by omega, by rw [show k + 1 - 1 = k by omega, HMk.out]; exact HQ.out.symm, rfl, by go_num, HM4.out, by rw [List.range_succ]; exact HJ4.out⟩
          case measure => simp [intOf]; omega
        · have HJx := Lib.hid hJx3
          clear hJx3
          gi_wp2
          refine bodyPost_ret (results_none rfl _ _ _) rfl ?_
          exact ⟨⟨_, rfl⟩, .inr ⟨_, ⟨k, by omega, List.range_succ.symm⟩, HJx.out⟩⟩
    · have hlti : ¬ (k : Int) < N := by omega
      have hkN : k = N := by omega
      subst hkN
      gi_wp2
      refine bodyPost_end (results_none rfl _ _ _) rfl ?_
      exact ⟨⟨_, rfl⟩, .inl hJk⟩
end Go.Proofs.YtpnancidgobehaaDoor
