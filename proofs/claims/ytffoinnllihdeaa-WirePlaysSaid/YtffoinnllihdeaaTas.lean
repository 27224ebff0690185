import Derived.Test.YtffoinnllihdeaaTar
import Derived.Lib.SliceRun
namespace Go.Proofs.Ytffoinnllihdeaa
open Go.RowKit

theorem info25 : (Try.prog.info? 41).map (fun i => (i.zero, i.size, i.bytes)) = some (some (.int .u64 0), 1, 8) := by kernel_rfl

def OwnRes (w : World) (zs : List Int) (r : Ending) (w' : World) : Prop := ∃ u, r = .returned u ∧ Own .u64 w.heap.size 41 w' u zs ∧ Below w.heap.size w w'

theorem clone_any (v : Value) (zs : List Int) (w : World) (h : Rd .u64 w v zs) : Calls Try.prog 24 #[v] w (OwnRes w zs) := by
  have HR := hid h
  obtain ⟨a, cap, rfl, hl, hz, hc⟩ := h
  have hn := fun (a : Option Addr) (n c : Nat) => Lib.run_eql_slice_nil (P := Try.prog) w 25 41 a n c 0 0 Try.underlying25
  clear hc hz
  cases a with
  | none =>
    have h0 : zs = [] := by
      apply List.eq_nil_of_length_eq_zero
      obtain ⟨_, _, _, _, _, h⟩ := HR.out
      rcases Nat.eq_zero_or_pos zs.length with h0 | h0
      · exact h0
      · obtain ⟨_, _, e, _⟩ := h h0
        simp_all
    have H0 := hid h0
    clear h0
    go_enter Try.func24, Try.ntmps24
    go_wp2
    go_ret
    exact ⟨_, rfl, by rw [H0.out]; exact own_nil _ _ _ _, Below.refl _ _⟩
  | some a =>
    have HLI : Hid ((([] : List Int).length + zs.length) * (IntKind.u64.bits / 8) ≤ 140737488355328) := hid (by simp [IntKind.bits] at hl ⊢; omega)
    have HZ := hid (HR.out.self ((Below.refl w.heap.size w).alloc (Nat.le_refl _) (.cells #[] 41)))
    clear hl
    go_enter Try.func24, Try.ntmps24
    go_wp2_with (refine wpList_append_rd rfl (.tmp 5) (.tmp 6) 25 rfl .u64 w.heap.size 41 Try.underlying25 info25 (by decide) _ [] rfl (own_empty w (Nat.le_refl _)) _ zs rfl HZ.out HLI.out (by simp) w.heap.size w ((Below.refl _ _).alloc (Nat.le_refl _) _) (Nat.le_refl _) ?_; intro u w1 hown hlow hsz1; rw [List.nil_append] at hown; have HO := hid hown; have HL := hid hlow; clear hown hlow)
    go_ret
    exact ⟨_, rfl, HO.out, HL.out⟩

def NewRes (w : World) (zs : List Int) (r : Ending) (w' : World) : Prop := ∃ b, r = .returned (.pointer (some ⟨b, 0, none⟩)) ∧ TapeAt w' w.heap.size w'.heap.size b zs 0 0 ∧ Below w.heap.size w w'

theorem new_any (v : Value) (zs : List Int) (w : World) (h : Rd .u64 w v zs) : Calls Try.prog 5 #[v] w (NewRes w zs) := by
  have HR := hid h
  have hl : zs.length * 8 ≤ 140737488351232 := by obtain ⟨_, _, _, h, _⟩ := h; simpa [IntKind.bits] using h
  have HWF := hid (wfs_of h)
  have HL := hid hl
  clear h hl
  go_enter Try.func5, Try.ntmps5
  go_wp2_with (go_at_call 24; refine (clone_any v zs _ HR.out).mono ?_; rintro r w1 ⟨u, rfl, hown, hlow⟩; obtain ⟨pa, cp, rfl, hq1, hq2⟩ := hown.slice; clear hq1 hq2; have HO := hid hown; have HB := hid hlow; clear hown hlow)
  go_ret
  refine ⟨w1.heap.size, rfl, ⟨_, heap_alloc_new w1 _, ?_, Nat.le_refl _, Nat.zero_le _, HB.out.size, by simp, Nat.le_refl _⟩, HB.out.alloc HB.out.size _⟩
  refine ((HO.out.rds (by have := HL.out; simpa [IntKind.bits] using this) HWF.out).imp fun g hg _ => ⟨hg.1, by simp; omega, by omega⟩).below ((Below.refl _ _).alloc (Nat.le_refl _) _)
end Go.Proofs.Ytffoinnllihdeaa
