import Derived.Test.YtoicanbgaghpcaaProg
import Derived.Test.YtoicanbgaghpcaaOcu
import Derived.Laws.CopyOwn
namespace Go.Proofs.Ytoicanbgaghpcaa
open Go.RowKit
theorem info8 : (Try.prog.info? 5).map (fun i => (i.zero, i.size, i.bytes)) = some (some (.int .u8 0), 1, 1) := by kernel_rfl

set_option maxHeartbeats 400000 in
theorem copied_any (v : Value) (zs : List Int) (w : World) (h : Rd .u8 w v zs) :
    Calls Try.prog 27 #[v] w fun e w' => ∃ v', e = .returned v' ∧ Own .u8 w.heap.size 5 w' v' zs ∧ Below w.heap.size w w' := by
  have hl := u8lim h
  have h' := h
  obtain ⟨a, cap, rfl, _, hz, hc⟩ := h'
  have hmk := run_make_ints (P := Try.prog) w .u8 .i64 22 5 zs.length Try.underlying22 info8 (by simp [IntKind.bits]; omega) (by decide)
  have hown := own_made (k := .u8) (B := w.heap.size) (E := 5) w zs.length (Nat.le_refl _) (by unfold maxLen; omega)
  have hlow : Below w.heap.size w (w.alloc (.cells (madeCells #[.int .u8 0] zs.length) 5)) := (Below.refl _ _).alloc (Nat.le_refl _) _
  have hrd := Rd.self (w' := w.alloc (.cells (madeCells #[.int .u8 0] zs.length) 5)) h hlow
  have HO := hid hown; have HR := hid hrd; have HL := hid hlow
  clear hown hrd hlow hc hz h
  go_enter Try.func27, Try.ntmps27
  go_wp2_with (refine wpList_copy_whole rfl (.tmp 7) (.tmp 8) 22 22 rfl 5 Try.underlying22 (by kernel_rfl) _ _ rfl rfl .u8 w.heap.size _ _ HO.out HR.out (by simp) w.heap.size w HL.out (Nat.le_refl _) ?_; intro w2 hO2 hL2)
  go_ret
  exact ⟨_, rfl, hO2, hL2⟩

def rsTo (x : Int) : Nat → Int
  | 0 => x
  | k + 1 => rsTo x k / 256
def rsL (x : Int) : Nat → List Int
  | 0 => []
  | k + 1 => rsL x k ++ [rsTo x k % 256]
theorem rsL_len (x : Int) : ∀ k, (rsL x k).length = k
  | 0 => rfl
  | k + 1 => by simp [rsL, rsL_len x k]

set_option maxHeartbeats 400000 in
theorem refstore_any (x n : Int) (w : World) (hx : 0 ≤ x ∧ x ≤ 18446744073709551615) :
    Calls Try.prog 10 #[.int .u64 x, .int .i64 n] w fun e w' => ∃ v', e = .returned v' ∧ Own .u8 w.heap.size 5 w' v' (rsL x (min (max n 0) 8).toNat) ∧ Below w.heap.size w w' := by
  obtain ⟨m, hm, hm64⟩ : ∃ m : Nat, min (max n 0) 8 = m ∧ m ≤ 8 := ⟨(min (max n 0) 8).toNat, by omega, by omega⟩
  have HM := hid hm
  have hbd : ∀ k, 0 ≤ rsTo x k ∧ rsTo x k ≤ 18446744073709551615 := by
    intro k
    induction k with
    | zero => exact hx
    | succ k ih => simp only [rsTo]; omega
  have HB := hid hbd
  clear hm hbd hx
  go_enter Try.func10, Try.ntmps10
  go_wp2
  go_loopw [0, 5, 6] (fun y v i wr => ∃ j : Nat, j ≤ m ∧ i = .int .i64 j ∧ y = .int .u64 (rsTo x j) ∧ Own .u8 w.heap.size 5 wr v (rsL x j) ∧ Below w.heap.size w wr) (fun _ _ i _ => m - (intOf i).toNat)
  case atStart => exact ⟨0, by omega, rfl, rfl, own_empty w (Nat.le_refl _), (Below.refl _ _).alloc (Nat.le_refl _) _⟩
  case round =>
    obtain ⟨j, hj, rfl, rfl, hown, hlow⟩ := hrel
    have hb1 := (HB.out j).1
    have hb2 := (HB.out j).2
    have HO := hid hown; have HL := hid hlow
    have hsz := hlow.size
    have hlen := rsL_len x j
    clear hown hlow
    by_cases hlt : j < m
    · have h1 : (j : Int) < n := by have := HM.out; omega
      have hlim : ((rsL x j).length + 1) * (IntKind.u8.bits / 8) ≤ 140737488355328 := by simp [IntKind.bits]; omega
      have HLI := hid hlim; clear hlim; have HLE := hid hlen; clear hlen
      go_wp2_with (refine wpList_append_ints rfl (.tmp 17) (.tmp 21) 22 rfl .u8 w.heap.size 5 Try.underlying22 info8 (by decide) _ _ rfl (HO.out.alloc _) _ _ _ _ rfl rfl (cell_new_int _ _ _ _) HLI.out (by simp; omega) _ _ (HL.out.alloc (by omega) _) (Nat.le_refl _) ?_; intro v2 w2 hO2 hL2 _)
      go_roundw
      case rel => exact ⟨j + 1, by omega, by go_num, rfl, hO2, hL2⟩
      case measure => simp [intOf]; omega
    · have h0 : j = m := by omega
      by_cases h1 : (j : Int) < n
      · have h2 : ¬ (j : Int) < 8 := by have := HM.out; omega
        clear h0
        go_wp2
        go_ret
        obtain rfl : j = m := by omega
        exact ⟨_, rfl, by rw [HM.out]; exact HO.out, HL.out⟩
      · clear h0
        go_wp2
        go_ret
        obtain rfl : j = m := by omega
        exact ⟨_, rfl, by rw [HM.out]; exact HO.out, HL.out⟩
end Go.Proofs.Ytoicanbgaghpcaa
