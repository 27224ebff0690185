import Derived.Test.YtiejaedljebbfaaProg
import Derived.Test.YtiejaedljebbfaaCtg
/- The chapter's example; comparisons of rows of bytes. -/
namespace Go.Proofs.Ytiejaedljebbfaa
open Go.RowKit
set_option maxRecDepth 100000

theorem lat255 : ns 16 (lat (fun _ => 255) 1) = ns 16 (fun _ => 0) := by decide +kernel
theorem same_ns (v v' : Value) (xs ys : List Int) (w : World) (h : Rd .u8 w v xs) (h' : Rd .u8 w v' ys) (e : xs = ys) : Calls Try.prog 13 #[v, v'] w fun e w' => e = .returned (.bool true) ∧ w' = w := by
  have := refsame_any v v' xs ys w h h'
  rwa [decide_eq_true e] at this
theorem at_one (g off c : Nat) (f : Nat → Nat) (w : World) (h : Wd w 16 g off f) :
    Calls Try.prog 11 #[.slice (some ⟨g, off, none⟩) 16 c, .int .i64 1] w fun e w' =>
      e = .returned (.tuple #[.slice (some ⟨w.heap.size, 0, none⟩) 16 16, .int .i64 0]) ∧ Own .u8 w.heap.size 5 w' (.slice (some ⟨w.heap.size, 0, none⟩) 16 16) (ns 16 (lat f 1)) ∧ Below w.heap.size w w' :=
  at_ok g off c f 1 w (by decide) h

set_option maxHeartbeats 1600000 in
theorem ctrAwake_any (w : World) : Calls Try.prog 7 #[] w fun e w' => e = .returned (.bool true) ∧ Below w.heap.size w w' := by
  have HE := hid (own_empty (k := .u8) (B := w.heap.size) (E := 5) w (Nat.le_refl _))
  go_enter Try.func7, Try.ntmps7
  go_wp2
  go_loopw [1, 2] (fun v i wr => ∃ j : Nat, j ≤ 16 ∧ i = .int .i64 j ∧ Own .u8 w.heap.size 5 wr v (ns j (fun _ => 255)) ∧ Below w.heap.size w wr) (fun _ i _ => (16 - intOf i).toNat)
  case atStart => exact ⟨0, by omega, rfl, HE.out, (Below.refl _ _).alloc (Nat.le_refl _) _⟩
  case round =>
    obtain ⟨j, hj, rfl, hown, hlow⟩ := hrel
    have HO := hid hown
    have HL := hid hlow
    clear hown hlow
    by_cases h16 : j = 16
    · subst h16
      obtain ⟨g, cap, rfl, hg, _⟩ := HO.out.part (by rw [ns_len]; decide)
      rw [ns_len] at *
      have HA := hid (at_one g 0 cap (fun _ => 255) wr (Wd.of_own HO.out (by decide) (fun _ _ => by decide)))
      have hmk : ∀ W : World, (Instr.makeSlice 22 (.int .i64 16) (.int .i64 16)).run Try.prog W = .ok (.slice (some ⟨W.heap.size, 0, none⟩) 16 16) (W.alloc (.cells (madeCells #[.int .u8 0] 16) 5)) := fun W => run_make_ints (P := Try.prog) W .u8 .i64 22 5 16 Try.underlying22 info8 (by decide) (by decide)
      have hs : Hid (∀ W1, Own .u8 wr.heap.size 5 W1 (.slice (some ⟨wr.heap.size, 0, none⟩) 16 16) (ns 16 (lat (fun _ => 255) 1)) → Calls Try.prog 13 #[.slice (some ⟨wr.heap.size, 0, none⟩) 16 16, .slice (some ⟨W1.heap.size, 0, none⟩) 16 16] (W1.alloc (.cells (madeCells #[.int .u8 0] 16) 5)) (fun e w' => e = .returned (.bool true) ∧ w' = W1.alloc (.cells (madeCells #[.int .u8 0] 16) 5))) := hid (fun W1 ho => by
        have h1 := (wd_own ho (lat_b _ 1)).1
        have h2 := own_made (k := .u8) (B := W1.heap.size) (E := 5) W1 16 (Nat.le_refl _) (by unfold maxLen; omega)
        rw [ns_zero] at h2
        exact same_ns _ _ _ _ _ ((h1.alloc _).rd 16 (by decide)) ((wd_own h2 (fun _ _ => by decide)).1.rd 16 (by decide)) lat255)
      go_wp2_with (first
        | (go_at_call 11; (with_reducible refine HA.out.mono ?_); rintro e w1 ⟨rfl, hown, hlow⟩; have HS := hid (hs.out w1 hown); have hm := hmk w1; have HB := hid (HL.out.trans (hlow.mono HL.out.size)); clear hown hlow)
        | (go_at_call 13; (with_reducible refine HS.out.mono ?_); rintro e w2 ⟨rfl, rfl⟩))
      go_ret
      exact ⟨rfl, HB.out.alloc HB.out.size _⟩
    · have hj1 : (j : Int) < 16 := by omega
      have HJ : Hid (j < 16) := hid (by omega)
      clear h16 hj
      go_wp2_with (refine wpList_append_ints rfl (.tmp 10) (.tmp 11) 22 rfl .u8 w.heap.size 5 Try.underlying22 info8 (by decide) _ _ rfl (HO.out.alloc _) ⟨_, 0, none⟩ 1 1 [(255 : Int)] rfl rfl (cell_new_int _ .u8 _ 5) (by rw [ns_len]; have := HJ.out; show (j + 1) * 1 ≤ _; omega) (Nat.le_trans HL.out.size (by simp)) w.heap.size w (HL.out.alloc HL.out.size _) (Nat.le_refl _) ?_; intro v' w' hown' hlow' _; have HN := hid (And.intro hown' hlow'); clear hown' hlow')
      go_roundw
      case rel => exact ⟨j + 1, HJ.out, by go_num, by have := HN.out.1; rwa [show ns j (fun _ => 255) ++ [(255 : Int)] = ns (j + 1) (fun _ => 255) from ns_snoc j (fun _ => 255)] at this, HN.out.2⟩
      case measure => (simp [intOf] <;> omega)
end Go.Proofs.Ytiejaedljebbfaa
