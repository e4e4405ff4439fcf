
/- The laws of bits: several lists of one law spoiled one after another. -/
import Derived.Test.YtpbcomdlboiddaaDoorGj
set_option linter.all false
set_option maxRecDepth 100000
namespace Go.Proofs.YtpbcomdlboiddaaDoor
open Go.RowKit

/-- The list's block lies below. -/
def Under (v : Value) (B : Nat) : Prop := ∀ a l c, v = .slice (some a) l c → a.block < B
theorem Mine.under {w : World} {B B1 : Nat} {v : Value} {xs : List Int} (h : Mine w B v xs) (hB : w.heap.size ≤ B1) : Under v B1 := by
  intro a l c hv
  obtain ⟨_, hh | ⟨g, cap, cur, rfl, h2, h3, _⟩⟩ := h
  · rw [hh.1] at hv; cases hv
  · cases hv
    have : g < w.heap.size := by
      rcases Nat.lt_or_ge g w.heap.size with h' | h'
      · exact h'
      · rw [Array.getElem?_eq_none h'] at h3; cases h3
    dsimp only
    omega
theorem setCells_other {b k : Nat} (hk : k ≠ b) : ∀ (vs : List Value) (o : Nat) (w : World), (w.setCells b o vs).heap[k]? = w.heap[k]?
  | [], _, _ => rfl
  | v :: vs, o, w => (setCells_other hk vs (o + 1) _).trans (Below.heap_setCell w ⟨b, o, none⟩ v k hk)
theorem Mine.of_heap {w w' : World} {B : Nat} {v : Value} {xs : List Int} (h : Mine w B v xs) (hh : ∀ k, B ≤ k → w'.heap[k]? = w.heap[k]?) : Mine w' B v xs := by
  obtain ⟨h1, h2 | ⟨g, cap, cur, h3, h4, h5, h6⟩⟩ := h
  · exact ⟨h1, .inl h2⟩
  · exact ⟨h1, .inr ⟨g, cap, cur, h3, h4, (hh g h4).trans h5, h6⟩⟩
theorem bt_clears (v : Value) (xs : List Int) (B : Nat) (w : World) (h : Mine w B v xs) : ∃ w', (∀ ty, (Builtin.clear_ #[22] ty #[v]).run Tryd.prog w = .ok (.tuple #[]) w') ∧ (∀ B0 w0, Below B0 w0 w → B0 ≤ B → Below B0 w0 w') ∧ ∀ B1 v1 xs1, Under v B1 → Mine w B1 v1 xs1 → Mine w' B1 v1 xs1 := by
  by_cases hv : v = .slice none 0 0
  · subst hv
    exact ⟨w, fun ty => by simp [Builtin.clear_, run_underlying und_ints], fun _ _ h _ => h, fun _ _ _ _ h => h⟩
  · obtain ⟨_, hh | ⟨g, c, cur, rfl, h2, h3, h4, h5, h6, h7⟩⟩ := h
    · exact absurd hh.1 hv
    · by_cases h0 : xs.length = 0
      · rw [h0]
        exact ⟨w, fun ty => by simp [Builtin.clear_, run_underlying und_ints], fun _ _ h _ => h, fun _ _ _ _ h => h⟩
      · refine ⟨_, fun ty => Lib.run_clear_slice w 22 3 ty (.int .i64 0) und_ints zero_int rfl rfl g 0 xs.length c (by omega) (fun j hj => ?_) (fun j hj => ?_), fun B0 w0 hb hB => bt_below_setCells (by omega) _ _ _ hb, fun B1 v1 xs1 hu hm => hm.of_heap fun k hk => setCells_other (by have := hu _ _ _ rfl; dsimp only at this; omega) _ _ _⟩
        · rw [cell_of_row w g (0 + j) cur 3 (0, 0) h3, Nat.zero_add, Array.getElem?_eq_getElem (by omega)]; rfl
        · simp [World.frozen?, h3]
/-- A bool; below B all is as it was, and so is a list that lies above this one. -/
def GivesT (r v : Value) (B : Nat) (w : World) (e : Ending) (w' : World) : Prop := e = .returned r ∧ (∀ B0 w0, Below B0 w0 w → B0 ≤ B → Below B0 w0 w') ∧ ∀ B1 v1 xs1, Under v B1 → Mine w B1 v1 xs1 → Mine w' B1 v1 xs1
set_option maxHeartbeats 2000000 in
theorem bt_tolds (v : Value) (A C : List Nat) (B : Nat) (e f : Int) (w : World) (h : Mine w B v (casts A)) (q : Option Addr) (cb : Nat) (hu : Ints w q (casts C)) (hA : A.length ≤ 1000000) (hC : C.length ≤ 1000000) (hB : B ≤ w.heap.size) :
    Calls Tryd.prog 29 #[v, .slice q C.length cb, .int .i64 e, .int .i64 f] w (GivesT (.bool (decide (e = f ∧ A = C))) v B w) := by
  obtain ⟨pv, cv, rfl, hi⟩ := h.ints
  rw [casts_len] at *
  have hcast : decide (casts A = casts C) = decide (A = C) := by
    rw [decide_eq_decide]
    constructor
    · intro he
      have := congrArg nats he
      rwa [nats_casts, nats_casts] at this
    · intro he; rw [he]
  have HE : Hid (∀ w', Below w.heap.size w w' → Calls Tryd.prog 30 #[.slice pv A.length cv, .slice q C.length cb] w' (Gives (.bool (decide (A = C))) w')) := fun w' hb => by
    have := bt_Equal (casts A) (casts C) pv q cv cb w' (hi.below hb) (hu.below hb) (by rw [casts_len]; omega) (by rw [casts_len]; omega)
    rwa [casts_len, casts_len, hcast] at this
  have HM := Lib.hid h
  clear hcast hi hu h
  by_cases hef : e = f
  · have heq : (e == f) = true := by simp [hef]
    have hd : decide (e = f ∧ A = C) = decide (A = C) := by simp [hef]
    rw [hd]
    clear hd hef
    generalize decide (A = C) = z at *
    go_enter Tryd.func29, Tryd.ntmps29
    go_wp2_with fail
    refine (HE.out _ (by repeat (first | with_reducible exact Below.refl _ _ | with_reducible refine below_al ?_ _ | with_reducible refine below_dN ?_ _ | with_reducible refine Below.drew ?_ | (with_reducible refine Below.setCell ?_ (by simp <;> omega) _) | (with_reducible refine below_via (by assumption) ?_)))).mono ?_
    rintro e1 w1 ⟨rfl, hb1⟩
    obtain ⟨w2, hcl, hb2, hc2⟩ := bt_clears _ _ B w1 (HM.out.call hb1)
    have HB2 := Lib.hid hb2
    have HC2 := Lib.hid hc2
    have HB1 := Lib.hid hb1
    clear hb2 hb1 hc2 HE HM
    go_wp2_with (simp only [hcl])
    go_ret
    exact ⟨rfl, fun B0 w0 h0 hB0 => HB2.out B0 w0 (h0.trans (HB1.out.mono (by omega))) hB0, fun B1 v1 xs1 hu hm => HC2.out B1 v1 xs1 hu (hm.call HB1.out)⟩
  · have heq : (e == f) = false := by simp [hef]
    have hd : decide (e = f ∧ A = C) = false := decide_eq_false (fun h => hef h.1)
    rw [hd]
    obtain ⟨w2, hcl, hb2, hc2⟩ := bt_clears _ _ B w HM.out
    have HB2 := Lib.hid hb2
    have HC2 := Lib.hid hc2
    clear hd hef HE HM hb2 hc2
    go_enter Tryd.func29, Tryd.ntmps29
    go_wp2_with (simp only [hcl])
    go_ret
    exact ⟨rfl, fun B0 w0 h0 hB0 => HB2.out B0 w0 h0 hB0, HC2.out⟩
theorem bt_tolds_self (v : Value) (A : List Nat) (B : Nat) (e : Int) (w : World) (h : Mine w B v (casts A)) (q : Option Addr) (cb : Nat) (hu : Ints w q (casts A)) (hA : A.length ≤ 1000000) (hB : B ≤ w.heap.size) :
    Calls Tryd.prog 29 #[v, .slice q A.length cb, .int .i64 e, .int .i64 e] w (GivesT (.bool true) v B w) := by
  have := bt_tolds v A A B e e w h q cb hu hA hA hB
  simpa using this
end Go.Proofs.YtpbcomdlboiddaaDoor
