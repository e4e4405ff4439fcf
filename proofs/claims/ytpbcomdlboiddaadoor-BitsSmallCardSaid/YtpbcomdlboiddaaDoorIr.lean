
/- Free of bits: the library's sorted keys of a map, laid at this program; the columns that are no lead. -/
import Derived.Test.YtpbcomdlboiddaaDoorIq
import Derived.Test.YtpbcomdlboiddaaDoorVn
import Derived.Shelf.SlIterI.Nil
set_option linter.all false
set_option maxRecDepth 100000
namespace Go.Proofs.YtpbcomdlboiddaaDoor
open Go.RowKit Go.Maps Go.Sort Go.Shelf

def bt_keys_ren : Go.Shelf.Ren := ⟨fun | 7 => 76 | 10 => 120 | n => n, fun | 23 => 76 | 26 => 3 | 3 => 4 | 28 => 74 | 0 => 0 | 27 => 73 | 33 => 50 | 4 => 4 | n => n, fun | n => n⟩
theorem bt_keys_lays : Go.Proofs.SlLaysZI.n7 Tryd.prog bt_keys_ren := {
  mixed := by kernel_rfl
  f7 := ⟨Tryd.f76.name, by decide, Tryd.func76.trans (congrArg some (by kernel_rfl))⟩
  f10 := ⟨Tryd.f120.name, by decide, Tryd.func120.trans (congrArg some (by kernel_rfl))⟩
  t0 := Tryd.underlying0
  a0 := Tryd.isAgg0
  z0 := Tryd.sizeOf0
  v0 := Tryd.zeroValue0
  t4 := Tryd.underlying4
  a4 := Tryd.isAgg4
  z4 := Tryd.sizeOf4
  v4 := Tryd.zeroValue4
  t23 := Tryd.underlying76
  a23 := Tryd.isAgg76
  z23 := Tryd.sizeOf76
  v23 := Tryd.zeroValue76
  t26 := Tryd.underlying3
  a26 := Tryd.isAgg3
  z26 := Tryd.sizeOf3
  v26 := Tryd.zeroValue3
  t27 := Tryd.underlying73
  a27 := Tryd.isAgg73
  z27 := Tryd.sizeOf73
  v27 := Tryd.zeroValue73
  t28 := Tryd.underlying74
  a28 := Tryd.isAgg74
  z28 := Tryd.sizeOf74
  v28 := Tryd.zeroValue74
  t33 := Tryd.underlying50
  a33 := Tryd.isAgg50
  z33 := Tryd.sizeOf50
  v33 := Tryd.zeroValue50 }
def bt_sorted_ren : Go.Shelf.Ren := ⟨fun | 6 => 75 | 8 => 118 | 9 => 119 | 11 => 126 | n => n, fun | 26 => 3 | 28 => 74 | 24 => 22 | 0 => 0 | 3 => 3 | 4 => 4 | 33 => 50 | n => n, fun | n => n⟩
theorem bt_sorted_lays : Go.Proofs.SlLaysZI.n6 Tryd.prog bt_sorted_ren := {
  mixed := by kernel_rfl
  f6 := ⟨Tryd.f75.name, by decide, Tryd.func75.trans (congrArg some (by kernel_rfl))⟩
  f8 := ⟨Tryd.f118.name, by decide, Tryd.func118.trans (congrArg some (by kernel_rfl))⟩
  f11 := ⟨Tryd.f126.name, by decide, Tryd.func126.trans (congrArg some (by kernel_rfl))⟩
  t0 := Tryd.underlying0
  a0 := Tryd.isAgg0
  z0 := Tryd.sizeOf0
  v0 := Tryd.zeroValue0
  t24 := Tryd.underlying22
  a24 := Tryd.isAgg22
  z24 := Tryd.sizeOf22
  v24 := Tryd.zeroValue22
  t26 := Tryd.underlying3
  a26 := Tryd.isAgg3
  z26 := Tryd.sizeOf3
  v26 := Tryd.zeroValue3
  t28 := Tryd.underlying74
  a28 := Tryd.isAgg74
  z28 := Tryd.sizeOf74
  v28 := Tryd.zeroValue74
  i26 := by kernel_rfl }
theorem bt_sorts (m : Nat) : AnyZI.SortsIn Tryd.prog bt_sorted_ren Fence.wide m :=
  ⟨fun blk off cap ss W hH hblk hsz => callsIn_wide.2 (Tryd.slices_Sort_int blk off cap ss W hH hblk hsz), fun p cap W => callsIn_wide.2 (Tryd.slices_Sort_int_none p cap W)⟩
theorem bt_Keys (mb : Option Nat) (w : World) : Calls Tryd.prog 76 #[.map mb] w (fun e w' => e = .returned (.func (.func 120) #[] #[.pointer (some ⟨w.heap.size, 0, none⟩)]) ∧ w' = w.alloc (.cells #[.map mb] 76)) :=
  (callsIn_wide (n := 6)).1 (AnyZI.keys_in bt_keys_lays Fence.wide 6 trivial rfl mb w)
def SortedPost (es : List (Lit × DataW Unit)) (w : World) (e : Ending) (w' : World) : Prop := ∃ (v : Value) (ss : List Int), e = .returned v ∧ ss.Perm (intKeys (.map es)) ∧
  w'.ownsRow w.heap.size 3 1 v ss.length ((ss.mergeSort (fun x y => decide (x ≤ y))).map encZ) ∧ Below w.heap.size w w'
set_option maxHeartbeats 1000000 in
theorem bt_Sorted (g nn Bm : Nat) (es : List (Lit × DataW Unit)) (w : World) (hBm : Bm < w.heap.size) (hm : w.cell? ⟨Bm, 0, none⟩ = some (.map (some g))) (hown : w.ownsMap Tryd.prog 3 (plainElem Tryd.prog 4) g nn (.map es)) (hl : es.length ≤ 1000) :
    Calls Tryd.prog 75 #[.func (.func 120) #[] #[.pointer (some ⟨Bm, 0, none⟩)]] w (SortedPost es w) := by
  have hs : Maps.size (DataW.map es) = es.length := rfl
  have hseq : SeqGives Fence.wide 2 Tryd.prog 120 #[.pointer (some ⟨Bm, 0, none⟩)] encZ (fun ss => ss.Perm (intKeys (DataW.map es))) (Maps.size (DataW.map es)) w :=
    AnyZI.keys_gives (ρ := bt_keys_ren) { bt_keys_lays with } Fence.wide _ trivial rfl (by omega) Bm g nn _ w hBm hm hown
  have := AnyZI.sorted_in bt_sorted_lays Fence.wide 5 trivial trivial trivial trivial rfl (by omega) (bt_sorts _) (enters_of (by kernel_rfl)) 120 #[.pointer (some ⟨Bm, 0, none⟩)] trivial (enters_of (by kernel_rfl)) _ _ (by rw [hs]; unfold maxLen; omega) (by rw [hs]; omega) w hseq
  refine ((callsIn_wide (n := 5)).1 this).mono ?_
  rintro e w' ⟨v, ss, rfl, h1, h2, _, h3⟩
  exact ⟨v, ss, rfl, h1, h2, h3⟩
def FreeM (xs : List Int) (n : Int) : List Nat := if checkM xs n = 0 then freeM (spanned (nats xs)).at_ n.toNat else []
set_option maxHeartbeats 2000000 in
theorem bt_Free (xs : List Int) (n : Int) (p : Option Addr) (cap : Nat) (w : World) (h : Ints w p xs) (hm : xs.length ≤ 9223372036854775807) :
    Calls Tryd.prog 25 #[.slice p xs.length cap, .int .i64 n] w (ListE (FreeM xs n) (checkM xs n) w) := by
  have H1 : Hid (Calls Tryd.prog 27 #[.slice p xs.length cap, .int .i64 n] w (Gives (.int .i64 (checkM xs n)) w)) := bt_Check xs n p cap w h hm
  unfold FreeM
  by_cases hc : checkM xs n = 0
  · have R := right_of hc
    rw [if_pos hc]
    rw [hc] at H1 ⊢
    obtain ⟨m, rfl⟩ : ∃ m : Nat, n = m := ⟨n.toNat, by have := R.hn; omega⟩
    have h16 := R.h16
    rw [Int.toNat_natCast] at h16 ⊢
    obtain ⟨A, hAe⟩ : ∃ A, (spanned (nats xs)).at_ = A := ⟨_, rfl⟩
    have HN : Hid (∀ w', Below w.heap.size w w' → Calls Tryd.prog 73 #[.slice p xs.length cap] w' (fun e w2 => ∃ rv, e = .returned (.pointer (some ⟨w'.heap.size, 0, none⟩)) ∧ SysAt w2 w'.heap.size A rv ∧ Below w'.heap.size w' w2)) := fun w' hb => by
      have := bt_spanned (nats xs) R.r24 (by have := R.len; omega) p cap w' (by have := h.below hb; rwa [R.hx] at this)
      rw [nats_len] at this
      refine this.mono ?_
      rintro e w2 ⟨rv, h1, h2, _, h3⟩
      rw [hAe] at h2
      exact ⟨rv, h1, h2, h3⟩
    have hS := (spanned_ok R.r24 (show (nats xs).length ≤ 40 by have := R.len; omega)).1
    rw [hAe] at hS ⊢
    have hA := hS.1
    have HF : Hid (∀ b rv w', SysAt w' b A rv → Calls Tryd.prog 77 #[.pointer (some ⟨b, 0, none⟩), .int .i64 (m : Int)] w' (FreePost A m w')) := fun b rv w' h' => bt_free A hA b rv m (by omega) w' h'
    have hel := entM_len A m
    have HO := Lib.hid (openN_sorted A m)
    have HK := Lib.hid (entM_keys A m)
    show Calls _ _ _ _ (ListE (openN A m) 0 w)
    have hol : (openN A m).length ≤ 16 := by
      unfold openN
      exact Nat.le_trans (List.length_filter_le _ _) (by simp; omega)
    clear R hc h hm hAe hS hA
    unfold FreePost at HF
    generalize entM A m = es at *
    generalize openN A m = O at *
    go_enter Tryd.func25, Tryd.ntmps25
    go_wp2_with fail
    with_reducible refine H1.out.mono ?_
    rintro e w1 ⟨rfl, hb1⟩
    go_wp2_with fail
    refine (HN.out _ hb1).mono ?_
    rintro e w2 ⟨rv, rfl, hs2, hb2⟩
    have hw2 := below_via hb2 hb1
    have HS2 := Lib.hid hs2
    clear hb2 hb1 hs2
    go_wp2_with fail
    refine (HF.out _ rv _ HS2.out).mono ?_
    rintro e w3 ⟨rfl, hb3, hm3⟩
    have hw3 := below_via hb3 hw2
    have HM3 := Lib.hid hm3
    clear hb3 hm3 hw2 HS2 HF HN
    generalize w2.heap.size = g at *
    go_wp2_with fail
    refine (bt_Keys (some g) w3).mono ?_
    rintro e w4 ⟨rfl, rfl⟩
    have HB4 : Hid (Below w.heap.size w (w3.alloc (.cells #[.map (some g)] 76))) := below_via ((Below.refl _ w3).alloc (Nat.le_refl _) _) hw3
    have HSo := Lib.hid (bt_Sorted g m w3.heap.size es (w3.alloc (.cells #[.map (some g)] 76)) (by simp) (by go_simp) (HM3.out.alloc _) (by omega))
    clear hw3 HM3
    go_wp2_with fail
    refine HSo.out.mono ?_
    rintro e w5 ⟨v, ss, rfl, hp, ho, hb5⟩
    have hw5 := below_via hb5 HB4.out
    have hsz := HB4.out.size
    have hmerge : ss.mergeSort (fun x y => decide (x ≤ y)) = casts O := (mergeSort_of_perm_i (hp.trans HK.out)).trans HO.out
    have hlen : ss.length = (casts O).length := (hp.trans HK.out).length_eq
    rw [hmerge, hlen] at ho
    have HV : Hid (Mine w5 w.heap.size v (casts O)) := Mine.low (show Mine w5 _ v (casts O) from ho) hsz
    have HB5 := Lib.hid hw5
    clear hp ho hb5 hw5 hsz hmerge hlen HB4 HSo
    go_wp2_with fail
    go_ret2
    exact ⟨v, rfl, HB5.out, HV.out⟩
  · rw [if_neg hc]
    have hne : (checkM xs n != 0) = true := bne_iff_ne.2 hc
    generalize checkM xs n = q at *
    clear hc h hm
    go_enter Tryd.func25, Tryd.ntmps25
    go_wp2_with fail
    with_reducible refine H1.out.mono ?_
    rintro e w1 ⟨rfl, hb1⟩
    go_wp2_with fail
    go_ret2
    exact ListE.error _ hb1
end Go.Proofs.YtpbcomdlboiddaaDoor
