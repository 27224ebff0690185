import Derived.Test.YtnklljlgghenpaaProg
import Derived.Test.YtnklljlgghenpaaSbe
namespace Go.Proofs.Ytnklljlgghenpaa
open Go.RowKit

/-- tower.New, where nothing of its field is asked. -/
theorem field_made (w : World) : Calls Try.prog 27 #[] w fun e w' => e = .returned (.pointer (some ⟨w.heap.size, 0, none⟩)) ∧ Below w.heap.size w w' := by
  go_enter Try.func27, Try.ntmps27
  go_wp2
  go_ret
  exact ⟨rfl, (Below.refl _ _).alloc (Nat.le_refl _) _⟩

theorem box_made (w : World) :
    Calls Try.prog 22 #[] w fun e w' => ∃ b, e = .returned (.pointer (some ⟨b, 0, none⟩)) ∧ w.heap.size ≤ b ∧ (∃ p, BAt w' b 0 0 0 zt zt p) ∧ Below w.heap.size w w' := by
  have HN := hid (field_made w)
  go_enter Try.func22, Try.ntmps22
  go_wp2_with (first
    | (go_at_call 27; (with_reducible refine HN.out.mono ?_); rintro e w1 ⟨rfl, hl⟩; have HL := hid hl; clear hl)
    | (refine step_build_box ⟨w.heap.size, 0, none⟩ rfl _ rfl rfl ?_; generalize hcs : bcs 0 0 0 (fun _ => 0) (fun _ => 0) (some ⟨w.heap.size, 0, none⟩) = cs; have HC := hid hcs; clear hcs))
  go_ret
  exact ⟨_, rfl, HL.out.size, ⟨some ⟨w.heap.size, 0, none⟩, by have := heap_alloc_new w1 (.cells cs 64); rw [← HC.out] at this; unfold BAt; rw [HC.out]; rw [HC.out] at this; exact this⟩, HL.out.alloc HL.out.size _⟩
end Go.Proofs.Ytnklljlgghenpaa
