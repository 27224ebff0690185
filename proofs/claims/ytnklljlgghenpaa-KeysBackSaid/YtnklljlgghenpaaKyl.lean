import Derived.Test.YtnklljlgghenpaaProg
import Derived.Test.YtnklljlgghenpaaKyk
import Derived.Deep.QuietTactic
import Derived.BigQuiet
namespace Go.Proofs.Ytnklljlgghenpaa
open Go.RowKit

theorem sb_nul : sb 0 = 99 := by unfold sb; rw [tI_pw (by decide)]; decide +kernel
theorem zero_at (j : Nat) (hj : j < 4) : rkey 4 (fun _ => 0) 40 1 j = sb 0 ^^^ (if j = 0 then mkb 1 else 0) := by
  unfold rkey
  rw [show 4 * 1 + j / 4 = 4 by omega, Nat.mod_eq_of_lt hj, exps_at 4 _ (by decide) (by decide) (by decide), exps_key 4 _ (show 4 - 4 < 4 by decide)]
  unfold mkw
  rw [if_pos rfl, exps_key 4 _ (show 4 - 1 < 4 by decide), Nat.zero_xor]
theorem mkb_one : mkb 1 = 1 := by decide +kernel
theorem zero_0 : rkey 4 (fun _ => 0) 40 1 0 = 98 := by rw [zero_at 0 (by decide), sb_nul, if_pos rfl, mkb_one]; rfl
theorem zero_1 : rkey 4 (fun _ => 0) 40 1 1 = 99 := by rw [zero_at 1 (by decide), sb_nul, if_neg (by decide)]; rfl
theorem zero_3 : rkey 4 (fun _ => 0) 40 1 3 = 99 := by rw [zero_at 3 (by decide), sb_nul, if_neg (by decide)]; rfl

theorem expand_bad (a : Option Addr) (L c : Nat) (w : World) (h : rnd (L : Int) = 0) :
    Calls Try.prog 9 #[.slice a L c] w fun e w' => e = .returned (.tuple #[.slice none 0 0, .int .i64 5]) ∧ w' = w := by
  have HR := hid (fun w => by have := rounds_any (L : Int) w; rw [h] at this; exact this)
  clear h
  go_enter Try.func9, Try.ntmps9
  go_wp2_with (first | (go_at_call 5; (with_reducible refine (HR.out _).mono ?_); rintro e u1 ⟨rfl, rfl⟩))
  go_ret2
  exact ⟨rfl, rfl⟩
theorem refexpand_bad (a : Option Addr) (L c : Nat) (w : World) (h : rnd (L : Int) = 0) :
    Calls Try.prog 10 #[.slice a L c] w fun e w' => e = .returned (.tuple #[.slice none 0 0, .int .i64 5]) ∧ w' = w := by
  have HR := hid (fun w => by have := refrounds_any (L : Int) w; rw [h] at this; exact this)
  clear h
  go_enter Try.func10, Try.ntmps10
  go_wp2_with (first | (go_at_call 6; (with_reducible refine (HR.out _).mono ?_); rintro e u1 ⟨rfl, rfl⟩))
  go_ret2
  exact ⟨rfl, rfl⟩

set_option maxRecDepth 100000 in
set_option maxHeartbeats 1600000 in
theorem kawake_any (w : World) : Calls Try.prog 11 #[] w fun e w' => e = .returned (.bool true) ∧ Below w.heap.size w w' := by
  have hmk : ∀ w : World, (Instr.makeSlice 22 (.int .i64 16) (.int .i64 16)).run Try.prog w = .ok (.slice (some ⟨w.heap.size, 0, none⟩) 16 16) (w.alloc (.cells (ba 16 (fun _ => 0)) 5)) := make_bytes 16 (by decide)
  have HA : Hid (Wd (w.alloc (.cells (ba 16 (fun _ => 0)) 5)) 16 w.heap.size 0 (fun _ => 0)) := hid (Wd.of_at (At.new w 16 5 (fun _ => 0)) (fun _ _ => by decide))
  have HE : Hid (Calls Try.prog 9 #[.slice (some ⟨w.heap.size, 0, none⟩) 16 16] (w.alloc (.cells (ba 16 (fun _ => 0)) 5)) fun e w' =>
      ∃ c gs cs, e = .returned (.tuple #[.slice (some ⟨c, 0, none⟩) 11 11, .int .i64 0]) ∧ RL w' c 11 16 gs (fun _ => 0) cs (rkey 4 (fun _ => 0) 40) ∧ Below (w.alloc (.cells (ba 16 (fun _ => 0)) 5)).heap.size (w.alloc (.cells (ba 16 (fun _ => 0)) 5)) w') :=
    hid (expand_ok w.heap.size 0 16 4 16 10 11 44 40 (fun _ => 0) _ rfl rfl rfl rfl rfl (by decide) (by decide) (by decide) (by decide) (by decide) (by decide) (fun _ => by decide) HA.out)
  have HB : Hid (Below w.heap.size w (w.alloc (.cells (ba 16 (fun _ => 0)) 5))) := hid ((Below.refl _ _).alloc (Nat.le_refl _) _)
  have Z0 := hid zero_0
  have Z1 := hid zero_1
  have Z3 := hid zero_3
  generalize rkey 4 (fun _ => 0) 40 = Y at *
  have hmk1 := hmk w
  clear hmk HA
  generalize w.alloc (.cells (ba 16 (fun _ => 0)) 5) = w1 at *
  go_enter Try.func11, Try.ntmps11
  go_wp2_with (first
    | (go_at_call 9; (with_reducible refine (HE.out).mono ?_); rintro e w2 ⟨c, gs, cs, rfl, hr, hl⟩; have hc := hr.cell 1 (by decide); have h0 : w2.cell? ⟨gs 1, 0, none⟩ = some (.int .u8 98) := (by have := (hr.each 1 (by decide)).cell 0 (by decide); rw [Z0.out] at this; exact this); have h1 : w2.cell? ⟨gs 1, 1, none⟩ = some (.int .u8 99) := (by have := (hr.each 1 (by decide)).cell 1 (by decide); rw [Z1.out] at this; exact this); have h3 : w2.cell? ⟨gs 1, 3, none⟩ = some (.int .u8 99) := (by have := (hr.each 1 (by decide)).cell 3 (by decide); rw [Z3.out] at this; exact this); have HL2 := hid (HB.out.trans (hl.mono HB.out.size)); clear hr hl; generalize gs 1 = g at *; generalize cs 1 = k at *))
  go_ret
  exact ⟨rfl, HL2.out⟩
end Go.Proofs.Ytnklljlgghenpaa
