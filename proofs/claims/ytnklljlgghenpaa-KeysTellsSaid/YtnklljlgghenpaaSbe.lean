import Derived.Test.YtnklljlgghenpaaProg
import Derived.Test.YtnklljlgghenpaaSbd
import Derived.Test.YtnklljlgghenpaaOnc
namespace Go.Proofs.Ytnklljlgghenpaa
open Go.RowKit

set_option maxRecDepth 100000 in
set_option maxHeartbeats 1600000 in
theorem slow_box (b : Nat) (s : Int) (p : Option Addr) (w : World) (hB : BAt w b 0 0 s zt zt p) :
    Calls Try.prog 38 #[.pointer (some ⟨b, 0, none⟩), .func (.func 33) #[.pointer (some ⟨b, 0, none⟩)] #[]] w fun e w' => e = .returned (.tuple #[]) ∧ BAt w' b 1 0 s sb bk p ∧ Only b w w' := by
  have h1 := hB.c1
  have z1 := hB.free 1
  have HF1 := hid (hB.set1 1)
  have HO1 := hid (Only.set w (p := ⟨b, 1, none⟩) rfl (.int .i32 1))
  have hl := run_call_load (P := Try.prog) Try.func41 (by kernel_rfl) (by kernel_rfl) (by kernel_rfl) .u32 (by kernel_rfl) (w := w.setCell ⟨b, 1, none⟩ (.int .i32 1)) (a := ⟨b, 0, none⟩) (x := 0) HF1.out.c0
  have HCL := hid (fill_any b s p _ HF1.out)
  have HTF := hid (take_free ⟨b, 1, none⟩ w h1 z1)
  have hnot : ∀ (x : Bool) (w : World), (Op.unary .not (.bool x)).run Try.prog w = .ok (.bool (!x)) w := fun _ _ => rfl
  clear h1 z1 hB
  generalize hw1 : w.setCell ⟨b, 1, none⟩ (.int .i32 1) = w1 at *
  go_enter_defers Try.func38, Try.ntmps38
  go_wp2_with (first
    | (go_at_call 42; (with_reducible refine HTF.out.mono ?_); rintro e w' ⟨rfl, rfl⟩)
    | (go_at_call 37; go_in)
    | (go_at_call 33; (with_reducible refine HCL.out.mono ?_); rintro e w2 ⟨rfl, hf2, ho2⟩))
  have HF2 := hid hf2
  have HO2 := hid (HO1.out.trans ho2)
  clear hf2 ho2
  refine leaves_cons (f := 44) (args := #[.pointer (some ⟨b, 0, none⟩), .bool true]) (by simp) (by simp [go_sem]) ?_
  refine (mark_deferred ⟨b, 0, none⟩ (.int .u32 0) .returning _ HF2.out.c0 (HF2.out.free 0)).mono ?_
  rintro e u' w3 ⟨rfl, rfl, rfl⟩
  have HF3 := hid (HF2.out.drew.set0 1)
  have HO3 := hid ((HO2.out.drew).trans (Only.set w2.drew (p := ⟨b, 0, none⟩) rfl (.int .u32 1)))
  generalize w2.drew.setCell ⟨b, 0, none⟩ (.int .u32 1) = w3 at *
  refine leaves_cons (f := 43) (args := #[.pointer (some ⟨b, 1, none⟩)]) (by simp [settle]) (by simp [go_sem]) ?_
  refine (letgo_deferred ⟨b, 1, none⟩ _ _ HF3.out.c1 (HF3.out.free 1)).mono ?_
  rintro e u' w4 ⟨rfl, rfl, rfl⟩
  have HF4 := hid (HF3.out.set1 0)
  have HO4 := hid (HO3.out.trans (Only.set w3 (p := ⟨b, 1, none⟩) rfl (.int .i32 0)))
  generalize w3.setCell ⟨b, 1, none⟩ (.int .i32 0) = w4 at *
  exact ⟨_, results_none rfl _ _ _, rfl, HF4.out, HO4.out⟩

set_option maxRecDepth 100000 in
set_option maxHeartbeats 1600000 in
theorem dobox_first (b : Nat) (s : Int) (p : Option Addr) (w : World) (hB : BAt w b 0 0 s zt zt p) :
    Calls Try.prog 32 #[.pointer (some ⟨b, 0, none⟩), .func (.func 33) #[.pointer (some ⟨b, 0, none⟩)] #[]] w fun e w' => e = .returned (.tuple #[]) ∧ BAt w' b 1 0 s sb bk p ∧ Only b w w' := by
  have HSL := hid (slow_box b s p w hB)
  have hl := run_call_load (P := Try.prog) Try.func41 (by kernel_rfl) (by kernel_rfl) (by kernel_rfl) .u32 (by kernel_rfl) hB.c0
  have hnot : ∀ (x : Bool) (w : World), (Op.unary .not (.bool x)).run Try.prog w = .ok (.bool (!x)) w := fun _ _ => rfl
  clear hB
  go_enter Try.func32, Try.ntmps32
  go_wp2_with (first
    | (go_at_call 38; (with_reducible refine HSL.out.mono ?_); rintro e w2 ⟨rfl, hf2, ho2⟩)
    | (go_at_call 37; go_in))
  go_end0
  exact ⟨rfl, hf2, ho2⟩

set_option maxRecDepth 100000 in
set_option maxHeartbeats 1600000 in
theorem sub_first (b x : Nat) (s : Int) (p : Option Addr) (w : World) (hx : x < 256) (hB : BAt w b 0 0 s zt zt p) :
    Calls Try.prog 30 #[.pointer (some ⟨b, 0, none⟩), .int .u8 (x : Int)] w fun e w' => e = .returned (.int .u8 (sb x : Nat)) ∧ BAt w' b 1 0 s sb bk p ∧ Only b w w' := by
  have HD := hid (dobox_first b s p w hB)
  have hmf : ∀ (fn : Fn) (first cap : Array Value) (w : World), (Instr.makeFunc fn first cap).run Try.prog w = .ok (.func fn first cap) w := fun _ _ _ _ => rfl
  clear hB
  go_enter Try.func30, Try.ntmps30
  go_wp2_with (first
    | (go_at_call 32; (with_reducible refine HD.out.mono ?_); rintro e w2 ⟨rfl, hf2, ho2⟩; have HF2 := hid hf2; have HO2 := hid ho2; have hc := hf2.cf hx; clear hf2 ho2))
  go_ret
  exact ⟨rfl, HF2.out, HO2.out⟩

set_option maxRecDepth 100000 in
set_option maxHeartbeats 1600000 in
theorem sub_done (b x : Nat) (s : Int) (p : Option Addr) (w : World) (hx : x < 256) (hB : BAt w b 1 0 s sb bk p) :
    Calls Try.prog 30 #[.pointer (some ⟨b, 0, none⟩), .int .u8 (x : Int)] w fun e w' => e = .returned (.int .u8 (sb x : Nat)) ∧ w' = w := by
  have HD := hid (fun fv => do_done ⟨b, 0, none⟩ 1 (by decide) fv w hB.c0)
  have hmf : ∀ (fn : Fn) (first cap : Array Value) (w : World), (Instr.makeFunc fn first cap).run Try.prog w = .ok (.func fn first cap) w := fun _ _ _ _ => rfl
  have hc := hB.cf hx
  clear hB
  go_enter Try.func30, Try.ntmps30
  go_wp2_with (first
    | (go_at_call 32; (with_reducible refine (HD.out _).mono ?_); rintro e w2 ⟨rfl, rfl⟩))
  go_ret
  exact ⟨rfl, rfl⟩

end Go.Proofs.Ytnklljlgghenpaa
