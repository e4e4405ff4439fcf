
/- The library's count of trailing zeros at this program: what the library's text asks of the program, and its contract. -/
import Derived.Test.YtpnancidgobehaaDoorVk
import Derived.Shelf.Spec.TrailingZeros
set_option linter.all false
set_option maxRecDepth 100000
namespace Go.Proofs.YtpnancidgobehaaDoor
open Go.RowKit Go.Shelf

def bt_tz_ren : Go.Shelf.Ren := ⟨fun | 27 => 84 | 28 => 90 | 29 => 91 | n => n, fun | 0 => 0 | 3 => 3 | 4 => 4 | 5 => 5 | 22 => 103 | 25 => 40 | 27 => 56 | 53 => 110 | 54 => 111 | n => n, fun | 0 => 0 | 1 => 1 | n => n⟩
theorem bt_tz_lays : Go.Proofs.Lays7.n27 Tryd.prog bt_tz_ren := {
  mixed := by kernel_rfl
  f27 := Tryd.func84.trans (congrArg some (by kernel_rfl))
  f28 := Tryd.func90.trans (congrArg some (by kernel_rfl))
  f29 := Tryd.func91.trans (congrArg some (by kernel_rfl))
  t0 := Tryd.underlying0
  a0 := Tryd.isAgg0
  z0 := Tryd.sizeOf0
  v0 := Tryd.zeroValue0
  i0 := by kernel_rfl
  t3 := Tryd.underlying3
  a3 := Tryd.isAgg3
  z3 := Tryd.sizeOf3
  v3 := Tryd.zeroValue3
  i3 := by kernel_rfl
  t4 := Tryd.underlying4
  a4 := Tryd.isAgg4
  z4 := Tryd.sizeOf4
  v4 := Tryd.zeroValue4
  i4 := by kernel_rfl
  t5 := Tryd.underlying5
  a5 := Tryd.isAgg5
  z5 := Tryd.sizeOf5
  v5 := Tryd.zeroValue5
  i5 := by kernel_rfl
  t22 := Tryd.underlying103
  a22 := Tryd.isAgg103
  z22 := Tryd.sizeOf103
  v22 := Tryd.zeroValue103
  i22 := by kernel_rfl
  t25 := Tryd.underlying40
  a25 := Tryd.isAgg40
  z25 := Tryd.sizeOf40
  v25 := Tryd.zeroValue40
  i25 := by kernel_rfl
  t27 := Tryd.underlying56
  a27 := Tryd.isAgg56
  z27 := Tryd.sizeOf56
  v27 := Tryd.zeroValue56
  i27 := by kernel_rfl
  t53 := Tryd.underlying110
  a53 := Tryd.isAgg110
  z53 := Tryd.sizeOf110
  v53 := Tryd.zeroValue110
  i53 := by kernel_rfl
  t54 := Tryd.underlying111
  a54 := Tryd.isAgg111
  z54 := Tryd.sizeOf111
  g0 := by kernel_rfl
  g1 := by kernel_rfl }
/-- How many trailing zeros; the table is asked for only where the number is not 0. -/
theorem bt_tz (x : Nat) (hx : x < 18446744073709551616) (w : World) (hT : TabAt 1 Lib.deBruijn64tab w) : Calls Tryd.prog 84 #[.int .u64 x] w (Gives (.int .i64 (Lib.ctz 64 x)) w) :=
  (Any7.bits_TrailingZeros bt_tz_lays x hx w (fun _ => hT)).mono fun _ _ h => ⟨h.1, by rw [h.2]; exact Below.refl _ _⟩
end Go.Proofs.YtpnancidgobehaaDoor
