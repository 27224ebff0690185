import Derived.Test.YtiejaedljebbfaaProg
import Derived.Test.YtiejaedljebbfaaOcu
import Derived.Laws.CopyOwn
namespace Go.Proofs.Ytiejaedljebbfaa
open Go.RowKit
theorem info8 : (Try.prog.info? 5).map (fun i => (i.zero, i.size, i.bytes)) = some (some (.int .u8 0), 1, 1) := by kernel_rfl

set_option maxHeartbeats 400000 in
theorem copied_any (v : Value) (zs : List Int) (w : World) (h : Rd .u8 w v zs) :
    Calls Try.prog 49 #[v] w fun e w' => ∃ v', e = .returned v' ∧ Own .u8 w.heap.size 5 w' v' zs ∧ Below w.heap.size w w' := by
  have hl := u8lim h
  have h' := h
  obtain ⟨a, cap, rfl, _, hz, hc⟩ := h'
  have hmk := run_make_ints (P := Try.prog) w .u8 .i64 22 5 zs.length Try.underlying22 info8 (by simp [IntKind.bits]; omega) (by decide)
  have hown := own_made (k := .u8) (B := w.heap.size) (E := 5) w zs.length (Nat.le_refl _) (by unfold maxLen; omega)
  have hlow : Below w.heap.size w (w.alloc (.cells (madeCells #[.int .u8 0] zs.length) 5)) := (Below.refl _ _).alloc (Nat.le_refl _) _
  have hrd := Rd.self (w' := w.alloc (.cells (madeCells #[.int .u8 0] zs.length) 5)) h hlow
  have HO := hid hown; have HR := hid hrd; have HL := hid hlow
  clear hown hrd hlow hc hz h
  go_enter Try.func49, Try.ntmps49
  go_wp2_with (refine wpList_copy_whole rfl (.tmp 7) (.tmp 8) 22 22 rfl 5 Try.underlying22 (by kernel_rfl) _ _ rfl rfl .u8 w.heap.size _ _ HO.out HR.out (by simp) w.heap.size w HL.out (Nat.le_refl _) ?_; intro w2 hO2 hL2)
  go_ret
  exact ⟨_, rfl, hO2, hL2⟩

def rsTo (x : Int) : Nat → Int
  | 0 => x
  | k + 1 => rsTo x k / 256
def rsL (x : Int) : Nat → List Int
  | 0 => []
  | k + 1 => rsL x k ++ [rsTo x k % 256]
theorem rsL_len (x : Int) : ∀ k, (rsL x k).length = k
  | 0 => rfl
  | k + 1 => by simp [rsL, rsL_len x k]

end Go.Proofs.Ytiejaedljebbfaa
