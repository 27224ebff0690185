import Derived.Test.YtmggmjilgjogfaaProg
import Derived.Test.YtmggmjilgjogfaaTwb
import Derived.Test.YtmggmjilgjogfaaMa4
namespace Go.Proofs.Ytmggmjilgjogfaa
open Go.RowKit

def upTo (f : Nat → Nat) (j : Nat) : Nat → Nat := fun i => if i < j then f i else 0
structure UInv (f : Nat → Nat) (w wr : World) (j : Nat) : Prop where
  out : At wr w.heap.size 8 24 (fun _ => 0)
  var : At wr (w.heap.size + 1) 8 24 (upTo f j)
  low : Below w.heap.size w wr
theorem UInv.step {f : Nat → Nat} {w wr : World} {j : Nat} (h : UInv f w wr j) {z : Nat} (hz : z = f j) : UInv f w (wr.setCell ⟨w.heap.size + 1, j, none⟩ (.int .u8 (z : Int))) (j + 1) := by
  refine ⟨h.out.apart (by simp) _, (h.var.set j z).ext (fun i _ => ?_), h.low.setCell (by simp) _⟩
  unfold upd upTo
  by_cases e : i = j
  · subst e; simp [hz]
  · rw [if_neg e]
    by_cases h1 : i < j
    · rw [if_pos h1, if_pos (by omega)]
    · rw [if_neg h1, if_neg (by omega)]
theorem UInv.begin (f : Nat → Nat) (w : World) (j : Nat) (cs : Array Value) (hcs : cs = ba 8 (upTo f j)) : UInv f w ((w.alloc (.cells (ba 8 (fun _ => 0)) 24)).alloc (.cells cs 24)) j := by
  subst hcs
  refine ⟨(At.new w 8 24 (fun _ => 0)).alloc _, ?_, ((Below.refl _ _).alloc (Nat.le_refl _) _).alloc (by simp) _⟩
  have := At.new (w.alloc (.cells (ba 8 (fun _ => 0)) 24)) 8 24 (upTo f j)
  rw [World.size_alloc] at this
  exact this
theorem UInv.on {f : Nat → Nat} {w wr w1 : World} {j : Nat} (m : UInv f w wr j) (h : Below wr.heap.size wr w1) : UInv f w w1 j :=
  ⟨m.out.self h, m.var.self h, m.low.trans (h.mono m.low.size)⟩

set_option maxHeartbeats 800000 in
theorem powers_any (a : Nat) (w : World) (ha : a < 256) :
    Calls Try.prog 42 #[.int .u8 (a : Int)] w fun e w' => e = .returned (.agg (ba 8 (tp a))) ∧ Below w.heap.size w w' := by
  have HS := hid (fun j => show tm (tp a j) a = tp a (j + 1) from rfl)
  have HL := hid (tp_lt a)
  have HB := hid (UInv.begin (tp a) w 1 #[.int .u8 1, .int .u8 0, .int .u8 0, .int .u8 0, .int .u8 0, .int .u8 0, .int .u8 0, .int .u8 0] (by
    rw [ba_ext (g := fun i => if i < 1 then 1 else 0) (fun i hi => by
      unfold upTo
      by_cases h : i < 1
      · rw [if_pos h, if_pos h, show i = 0 by omega]; rfl
      · rw [if_neg h, if_neg h])]
    rfl))
  generalize tp a = f at *
  go_enter Try.func42, Try.ntmps42
  go_wp2
  go_loopw [4] (fun i wr => ∃ j : Nat, 1 ≤ j ∧ j ≤ 8 ∧ i = .int .i64 j ∧ UInv f w wr j) (fun i _ => 8 - (intOf i).toNat)
  case atStart => exact ⟨1, by omega, by omega, rfl, HB.out⟩
  case round =>
    obtain ⟨j, hj1, hj, rfl, hI⟩ := hrel
    have HI := hid hI
    clear hI
    by_cases hlt : j < 8
    · obtain ⟨k, rfl⟩ : ∃ k, j = k + 1 := ⟨j - 1, by omega⟩
      have hk := HI.out.var.cell (j := k) (by omega)
      rw [show upTo f (k + 1) k = f k from if_pos (by omega)] at hk
      have hf := HI.out.var.free (k + 1)
      have hc := HI.out.var.cell hlt
      have hm := HS.out k
      have hl0 := HL.out k
      obtain ⟨p, hp⟩ : ∃ p, f k = p := ⟨_, rfl⟩
      obtain ⟨q, hq⟩ : ∃ p, f (k + 1) = p := ⟨_, rfl⟩
      rw [hp] at hk hm hl0
      have MM := hid (fun w => tmul_to hl0 ha (hm.trans hq) w)
      have HQ := hid hq.symm
      clear hm hp hq
      go_wp2_with (first | (go_at_call 51; (with_reducible refine (MM.out _).mono ?_); rintro e w1 ⟨rfl, rfl⟩))
      go_roundw
      case rel => exact ⟨k + 1 + 1, by omega, by omega, by go_num, HI.out.step HQ.out⟩
      case measure => simp [intOf]; omega
    · obtain rfl : j = 8 := by omega
      have HM := hid HI.out.var
      have HN := hid HI.out.out
      go_wp2_with (first
        | (refine step_load_ba rfl 24 _ rfl (w.heap.size + 1) 8 24 5 _ rfl HM.out Try.underlying24 info22 ?_)
        | (refine step_store_ba rfl 24 _ _ rfl w.heap.size 8 24 _ _ rfl rfl HN.out info22 ?_))
      refine ret_ba rfl rfl Try.underlying24 info22 rfl (HI.out.out.row (upTo f 8)) ⟨?_, below_setRow HI.out.low (Nat.le_refl _) _⟩
      rw [ba_ext (fun i hi => show upTo f 8 i = f i from if_pos hi)]
end Go.Proofs.Ytmggmjilgjogfaa
