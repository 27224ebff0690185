import Derived.Test.YtkeojphhgebhdaaProg
import Derived.Test.YtkeojphhgebhdaaCdo
import Derived.Test.YtkeojphhgebhdaaCdq
import Derived.Test.YtkeojphhgebhdaaCds
/- Code: the three laws' cores. -/
namespace Go.Proofs.Ytkeojphhgebhdaa
open Go.RowKit

theorem cback_core (a b c d : Value) (za zb zc zd : List Int) (W : World) (ha : Rd .u8 W a za) (hb : Rd .u8 W b zb) (hc : Rd .u8 W c zc) (hd : Rd .u8 W d zd) :
    Calls Try.prog 4 #[a, b, c, d] W fun e w' => e = .returned (.bool true) ∧ Below W.heap.size W w' := by
  by_cases hl : 3000 < za.length + zb.length + zc.length + zd.length
  · exact cback_far a b c d za zb zc zd W ha hb hc hd hl
  · have hF : Fo W a b c d za zb zc zd := ⟨ha, hb, hc, hd, by omega⟩
    by_cases e1 : za = zc
    · by_cases e2 : zb = zd
      · exact cback_yy a b c d za zb zc zd W hF e1 e2
      · exact cback_yn a b c d za zb zc zd W hF e1 e2
    · exact cback_n a b c d za zb zc zd W hF e1
theorem clists_core (a : Option Addr) (n k : Nat) (As : Nat → Option Addr) (Ls Cs : Nat → Nat) (Fs : Nat → Nat → Nat) (v : Value) (zs : List Int) (W : World) (hr : Rws W a n As Ls Cs Fs) (hnk : n ≤ k) (h : RdC W v zs) :
    Calls Try.prog 5 #[.slice a n k, v] W fun e w' => e = .returned (.bool true) ∧ Below W.heap.size W w' := by
  by_cases hl : 30 < n ∨ 3000 < zs.length
  · exact clists_far a n k v zs W h hl
  · exact clists_near a n k As Ls Cs Fs v zs W hr hnk h (by omega) (by omega)
end Go.Proofs.Ytkeojphhgebhdaa
