import Derived.Test.YteoiekooaokhaaaProg
import Derived.Test.YteoiekooaokhaaaCmg
/- Tag. -/
namespace Go.Proofs.Yteoiekooaokhaaa
open Go.RowKit
set_option maxRecDepth 100000

theorem Te.undrew {w w' : World} {d b c cap R R1 g : Nat} {Y : Nat → Nat → Nat} {z : Nat → Nat} (h : Te w.drew w' d b c cap R R1 Y g z) : Te w w' d b c cap R R1 Y g z := ⟨h.gc, h.low.undrew, h.tag, h.new⟩
set_option maxHeartbeats 800000 in
theorem tag_any (w : World) (m d b c cap R R1 n e N : Nat) (Y : Nat → Nat → Nat) (x l δ : Nat → Nat) (a : Option Addr) (h : Mw w m d b c cap R R1 Y x a n e l N δ) :
    Calls Try.prog 23 #[.pointer (some ⟨m, 0, none⟩)] w fun q w' => ∃ g z, q = .returned (.slice (some ⟨g, 0, none⟩) 16 16) ∧ Te w w' d b c cap R R1 Y g z ∧ Eq16 z (tagF Y R (fun _ => 0) N δ) := by
  have HZ := hid h.st.tag
  have hT := tagOf_any d b c cap R R1 n e Y x l a w.drew h.gc.drew h.xb h.lb h.le (h.last.kept.self (Below.refl _ _).drew)
  have HT := hid hT
  have HD := hid h.drew
  have hc0 := h.drew.blk.c0
  have hcl := h.drew.blk.cl
  clear h hT
  go_enter Try.func23, Try.ntmps23
  go_wp2
  generalize hw2 : w.drew = w2 at *
  refine region_tail 12 (by kernel_rfl) (by kernel_rfl) ?_
  simp only [List.take_succ_cons, List.take_zero, List.drop_succ_cons, List.drop_zero]
  rw [hw2]
  still_step
  still_step
  still_step
  still_step
  still_step
  still_step
  still_step
  refine still_load_mid rfl 39 (.tmp 11) rfl m 1 16 x 5 rfl HD.out.blk.range Try.underlying39 infoa ?_
  still_step
  still_step
  still_step
  still_step
  refine wpStill_nil ?_
  go_wp2_with (first
    | (go_at_call 29; (with_reducible refine HT.out.mono ?_); rintro q w3 ⟨g, rfl, ht⟩; have HE := hid ht; clear ht))
  go_ret
  subst hw2
  exact ⟨g, _, rfl, HE.out.undrew, HZ.out⟩
end Go.Proofs.Yteoiekooaokhaaa
