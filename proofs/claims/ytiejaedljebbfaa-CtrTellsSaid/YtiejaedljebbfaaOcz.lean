import Derived.Test.YtiejaedljebbfaaProg
import Derived.Test.YtiejaedljebbfaaOcy
namespace Go.Proofs.Ytiejaedljebbfaa
open Go.RowKit

def one16 : List Int := [0, 0, 0, 0, 0, 0, 0, 0, 0, 0, 0, 0, 0, 0, 0, 1]
theorem inc_ex : incAt [0, 255] 2 = [1, 0] := by decide +kernel
theorem dbl_ex : dbL one16 = [0, 0, 0, 0, 0, 0, 0, 0, 0, 0, 0, 0, 0, 0, 0, 2] := by decide +kernel

set_option maxHeartbeats 400000 in
theorem refsame_any (v v' : Value) (xs ys : List Int) (w : World) (h : Rd .u8 w v xs) (h' : Rd .u8 w v' ys) :
    Calls Try.prog 13 #[v, v'] w fun e w' => e = .returned (.bool (decide (xs = ys))) ∧ w' = w := by
  have k1 := run_conv_rd (P := Try.prog) h Try.underlying22 Try.underlying5 9 Try.underlying9
  have k2 := run_conv_rd (P := Try.prog) h' Try.underlying22 Try.underlying5 9 Try.underlying9
  have HQ := hid (strOfNums_eq (wfs_of h) (wfs_of h'))
  obtain ⟨a, cap, rfl, _, _, _⟩ := h
  obtain ⟨a', cap', rfl, _, _, _⟩ := h'
  go_enter Try.func13, Try.ntmps13
  go_wp2
  go_ret
  exact ⟨ret_bool HQ.out, rfl⟩
end Go.Proofs.Ytiejaedljebbfaa
