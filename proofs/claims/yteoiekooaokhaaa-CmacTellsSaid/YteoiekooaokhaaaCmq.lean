import Derived.Test.YteoiekooaokhaaaProg
import Derived.Test.YteoiekooaokhaaaCmo
import Derived.Test.YteoiekooaokhaaaCmp
/- The chapter's example. -/
namespace Go.Proofs.Yteoiekooaokhaaa
open Go.RowKit
set_option maxRecDepth 100000

abbrev litK : Array Value := #[.int .u8 43, .int .u8 126, .int .u8 21, .int .u8 22, .int .u8 40, .int .u8 174, .int .u8 210, .int .u8 166, .int .u8 171, .int .u8 247, .int .u8 21, .int .u8 136, .int .u8 9, .int .u8 207, .int .u8 79, .int .u8 60]
abbrev litB : Array Value := #[.int .u8 187, .int .u8 29, .int .u8 105, .int .u8 41]
theorem exK_ba : ba 16 exK = litK := by kernel_rfl
theorem exB_ba : ba 4 exB = litB := by kernel_rfl
theorem exB_lt : ∀ j, j < 4 → exB j < 256 := by decide
theorem litK_at (w : World) : Wd (w.alloc (.cells litK 5)) 16 w.heap.size 0 exK := by
  have := At.new w 16 5 exK
  rw [exK_ba] at this
  exact Wd.of_at this (fun j _ => exK_lt j)
theorem litB_at (w : World) : Wd (w.alloc (.cells litB 5)) 4 w.heap.size 0 exB := by
  have := At.new w 4 5 exB
  rw [exB_ba] at this
  exact Wd.of_at this exB_lt
set_option maxHeartbeats 1600000 in
theorem cawake_any (w : World) : Calls Try.prog 7 #[] w fun e w' => e = .returned (.bool true) ∧ Below w.heap.size w w' := by
  have HL0 : Hid (Below w.heap.size w (w.alloc (.cells litK 5))) := hid ((Below.refl _ _).alloc (Nat.le_refl _) _)
  have HN : Hid (Calls Try.prog 8 #[.slice (some ⟨w.heap.size, 0, none⟩) 16 16] (w.alloc (.cells litK 5)) fun e w' =>
    ∃ d b c cap, e = .returned (.tuple #[.pointer (some ⟨d, 0, none⟩), .int .i64 0]) ∧ Ci w' d b c cap 11 (rkey 4 exK 40) ∧ (w.alloc (.cells litK 5)).heap.size ≤ b ∧ Below (w.alloc (.cells litK 5)).heap.size (w.alloc (.cells litK 5)) w') :=
    hid (new_ok w.heap.size 0 16 4 16 10 11 44 40 exK _ rfl rfl rfl rfl rfl (by decide) (by decide) (by decide) (by decide) (by decide) (by decide) exK_lt (litK_at w))
  have HS := hid (exB_says (fun _ => 0))
  have HZ : Hid (YB (rkey 4 exK 40) 10 → B16 (tagF (rkey 4 exK 40) 10 (fun _ => 0) 0 (fun _ => 0))) := hid (fun h => tagF_b h B16.zero (fun j hj => absurd hj (by omega)))
  have HM := hid (fun (d b c cap : Nat) (W : World) (h : Gc W d b c cap 10 11 (rkey 4 exK 40)) => msum_any d b c cap 10 11 0 0 (rkey 4 exK 40) (fun _ => 0) none W h (fun j hj => absurd hj (by omega)) (Nat.le_refl _) (kept_zero none 0 (fun _ => 0)))
  generalize tagF (rkey 4 exK 40) 10 (fun _ => 0) 0 (fun _ => 0) = z at *
  generalize rkey 4 exK 40 = Y at *
  go_enter Try.func7, Try.ntmps7
  go_wp2_with (first
    | (go_at_call 8; (with_reducible refine HN.out.mono ?_); rintro e w1 ⟨d, b, c, cap, rfl, hci, hb, hlow⟩
       have HL1 := hid (HL0.out.trans (hlow.mono HL0.out.size))
       have HBB := hid (Nat.le_trans HL0.out.size hb)
       have HG1 : Hid (Gc w1 d b c cap 10 11 Y) := hid ⟨by decide, hci⟩
       have HMS := hid (HM.out d b c cap w1 HG1.out)
       clear hci hb hlow)
    | (go_at_call 12; (with_reducible refine HMS.out.mono ?_); rintro e w2 ⟨g, rfl, ht⟩
       have HL2 := hid (HL1.out.trans (ht.low.below HBB.out HL1.out.size))
       have HL3 : Hid (Below w.heap.size w (w2.alloc (.cells litB 5))) := hid (HL2.out.alloc HL2.out.size _)
       have HB := hid (begins_any g 16 4 4 z exB _ (w2.alloc (.cells litB 5)) (((Wd.of_at ht.tag (HZ.out HG1.out.yb)).alloc _).rd 16 (by decide)) ((litB_at w2).rd 4 (by decide)) (Nat.le_refl _))
       rw [says_some (by decide) (by decide), decide_eq_true HS.out] at HB
       clear ht)
    | (go_at_call 17; (with_reducible refine HB.out.mono ?_); rintro e w3 ⟨rfl, rfl⟩))
  go_ret
  exact ⟨rfl, HL3.out⟩
end Go.Proofs.Yteoiekooaokhaaa
