import Derived.Test.YtmggmjilgjogfaaProg
import Derived.Test.YtmggmjilgjogfaaFat
import Derived.Test.YtmggmjilgjogfaaOnc
namespace Go.Proofs.Ytmggmjilgjogfaa
open Go.RowKit

set_option maxRecDepth 100000 in
set_option maxHeartbeats 1600000 in
theorem slow_any (b p : Nat) (s : Int) (f g : Nat → Nat) (w : World) (hp : w.cell? ⟨p, 0, none⟩ = some (.pointer (some ⟨b, 0, none⟩))) (hpb : p ≠ b) (hF : FAt w b 0 0 s f g) :
    Calls Try.prog 30 #[.pointer (some ⟨b, 0, none⟩), .func (.func 32) #[] #[.pointer (some ⟨p, 0, none⟩)]] w fun e w' => e = .returned (.tuple #[]) ∧ FAt w' b 1 0 s inM (inv inM) ∧ Only b w w' := by
  have h1 := hF.c1
  have z1 := hF.free 1
  have HF1 := hid (hF.set1 1)
  have HO1 := hid (Only.set w (p := ⟨b, 1, none⟩) rfl (.int .i32 1))
  have hp1 : (w.setCell ⟨b, 1, none⟩ (.int .i32 1)).cell? ⟨p, 0, none⟩ = some (.pointer (some ⟨b, 0, none⟩)) := (HO1.out.cell (p := ⟨p, 0, none⟩) (lt_of_cell hp) hpb).trans hp
  have hl := run_call_load (P := Try.prog) Try.func37 (by kernel_rfl) (by kernel_rfl) (by kernel_rfl) .u32 (by kernel_rfl) (w := w.setCell ⟨b, 1, none⟩ (.int .i32 1)) (a := ⟨b, 0, none⟩) (x := 0) HF1.out.c0
  have HCL := hid (closure_any b p 0 1 s f g _ hp1 hpb HF1.out)
  have HTF := hid (take_free ⟨b, 1, none⟩ w h1 z1)
  have hnot : ∀ (x : Bool) (w : World), (Op.unary .not (.bool x)).run Try.prog w = .ok (.bool (!x)) w := fun _ _ => rfl
  clear h1 z1 hp1
  generalize inv inM = y at *
  generalize inM = x at *
  generalize hw1 : w.setCell ⟨b, 1, none⟩ (.int .i32 1) = w1 at *
  go_enter_defers Try.func30, Try.ntmps30
  go_wp2_with (first
    | (go_at_call 38; (with_reducible refine HTF.out.mono ?_); rintro e w' ⟨rfl, rfl⟩)
    | (go_at_call 29; go_in)
    | (go_at_call 32; (with_reducible refine HCL.out.mono ?_); rintro e w2 ⟨rfl, hf2, ho2⟩))
  have HF2 := hid hf2
  have HO2 := hid (HO1.out.trans ho2)
  clear hf2 ho2
  refine leaves_cons (f := 40) (args := #[.pointer (some ⟨b, 0, none⟩), .bool true]) (by simp) (by simp [go_sem]) ?_
  refine (mark_deferred ⟨b, 0, none⟩ (.int .u32 0) .returning _ HF2.out.c0 (HF2.out.free 0)).mono ?_
  rintro e u' w3 ⟨rfl, rfl, rfl⟩
  have HF3 := hid (HF2.out.drew.set0 1)
  have HO3 := hid ((HO2.out.drew).trans (Only.set w2.drew (p := ⟨b, 0, none⟩) rfl (.int .u32 1)))
  generalize w2.drew.setCell ⟨b, 0, none⟩ (.int .u32 1) = w3 at *
  refine leaves_cons (f := 39) (args := #[.pointer (some ⟨b, 1, none⟩)]) (by simp [settle]) (by simp [go_sem]) ?_
  refine (letgo_deferred ⟨b, 1, none⟩ _ _ HF3.out.c1 (HF3.out.free 1)).mono ?_
  rintro e u' w4 ⟨rfl, rfl, rfl⟩
  have HF4 := hid (HF3.out.set1 0)
  have HO4 := hid (HO3.out.trans (Only.set w3 (p := ⟨b, 1, none⟩) rfl (.int .i32 0)))
  generalize w3.setCell ⟨b, 1, none⟩ (.int .i32 0) = w4 at *
  exact ⟨_, results_none rfl _ _ _, rfl, HF4.out, HO4.out⟩

set_option maxRecDepth 100000 in
set_option maxHeartbeats 1600000 in
theorem do_first (b p : Nat) (s : Int) (f g : Nat → Nat) (w : World) (hp : w.cell? ⟨p, 0, none⟩ = some (.pointer (some ⟨b, 0, none⟩))) (hpb : p ≠ b) (hF : FAt w b 0 0 s f g) :
    Calls Try.prog 20 #[.pointer (some ⟨b, 0, none⟩), .func (.func 32) #[] #[.pointer (some ⟨p, 0, none⟩)]] w fun e w' => e = .returned (.tuple #[]) ∧ FAt w' b 1 0 s inM (inv inM) ∧ Only b w w' := by
  have HSL := hid (slow_any b p s f g w hp hpb hF)
  have hl := run_call_load (P := Try.prog) Try.func37 (by kernel_rfl) (by kernel_rfl) (by kernel_rfl) .u32 (by kernel_rfl) hF.c0
  have hnot : ∀ (x : Bool) (w : World), (Op.unary .not (.bool x)).run Try.prog w = .ok (.bool (!x)) w := fun _ _ => rfl
  generalize inv inM = y at *
  generalize inM = x at *
  go_enter Try.func20, Try.ntmps20
  go_wp2_with (first
    | (go_at_call 30; (with_reducible refine HSL.out.mono ?_); rintro e w2 ⟨rfl, hf2, ho2⟩)
    | (go_at_call 29; go_in))
  go_end0
  exact ⟨rfl, hf2, ho2⟩
end Go.Proofs.Ytmggmjilgjogfaa
