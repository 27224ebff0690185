import Derived.Test.YtnklljlgghenpaaProg
import Derived.Test.YtnklljlgghenpaaSbc
namespace Go.Proofs.Ytnklljlgghenpaa
open Go.RowKit

/-- The tables after i bytes. -/
def sbTo (i : Nat) : Nat → Nat := fun x => if x < i then sb x else 0
def bkTo (i : Nat) : Nat → Nat := fun y => if bk y < i then bk y else 0
theorem sbTo_zero : ∀ x, x < 256 → zt x = sbTo 0 x := fun _ _ => (if_neg (by omega)).symm
theorem bkTo_zero : ∀ y, y < 256 → zt y = bkTo 0 y := fun _ _ => (if_neg (by omega)).symm
theorem sbTo_all : ∀ x, x < 256 → sbTo 256 x = sb x := fun _ h => if_pos h
theorem bkTo_all : ∀ y, y < 256 → bkTo 256 y = bk y := fun y _ => if_pos (bk_lt y)
theorem sbTo_step (i : Nat) : ∀ x, x < 256 → upd (sbTo i) i (sb i) x = sbTo (i + 1) x := fun x _ => by
  unfold upd sbTo
  by_cases e : x = i
  · subst e; rw [if_pos rfl, if_pos (by omega)]
  · rw [if_neg e]
    by_cases h1 : x < i
    · rw [if_pos h1, if_pos (by omega)]
    · rw [if_neg h1, if_neg (by omega)]
theorem bkTo_step {i : Nat} (hi : i < 256) : ∀ y, y < 256 → upd (bkTo i) (sb i) i y = bkTo (i + 1) y := fun y hy => by
  unfold upd bkTo
  by_cases e : y = sb i
  · subst e; rw [if_pos rfl, bk_sb hi, if_pos (by omega)]
  · rw [if_neg e]
    have : bk y ≠ i := fun h => e (by rw [← h, sb_bk hy])
    by_cases h1 : bk y < i
    · rw [if_pos h1, if_pos (by omega)]
    · rw [if_neg h1, if_neg (by omega)]

structure FInv (b : Nat) (s : Int) (p : Option Addr) (w wr : World) (i : Nat) : Prop where
  box : BAt wr b 0 1 s (sbTo i) (bkTo i) p
  low : Only b w wr
theorem FInv.start {b : Nat} {s : Int} {p : Option Addr} {w : World} (h : BAt w b 0 1 s zt zt p) : FInv b s p w w 0 := ⟨h.ext sbTo_zero bkTo_zero, Only.refl b w⟩
theorem FInv.on {b : Nat} {s : Int} {p : Option Addr} {w wr w1 : World} {i : Nat} (h : FInv b s p w wr i) (hb : Below wr.heap.size wr w1) : FInv b s p w w1 i := ⟨h.box.self hb, h.low.trans (Only.of_below hb)⟩
theorem FInv.drew {b : Nat} {s : Int} {p : Option Addr} {w wr : World} {i : Nat} (h : FInv b s p w wr i) : FInv b s p w wr.drew i := ⟨h.box, h.low.drew⟩
theorem FInv.step {b : Nat} {s : Int} {p : Option Addr} {w wr : World} {i : Nat} (h : FInv b s p w wr i) (hi : i < 256) :
    FInv b s p w ((wr.setCell ⟨b, 3 + i, none⟩ (.int .u8 (sb i : Nat))).setCell ⟨b, 259 + sb i, none⟩ (.int .u8 (i : Int))) (i + 1) :=
  ⟨((h.box.setf hi (sb i)).setg (sb_lt i) i).ext (sbTo_step i) (bkTo_step hi), (h.low.trans (Only.set wr (p := ⟨b, 3 + i, none⟩) rfl _)).trans (Only.set _ (p := ⟨b, 259 + sb i, none⟩) rfl _)⟩

set_option maxRecDepth 100000 in
set_option maxHeartbeats 1600000 in
theorem fill_any (b : Nat) (s : Int) (p : Option Addr) (w : World) (hB : BAt w b 0 1 s zt zt p) :
    Calls Try.prog 33 #[.pointer (some ⟨b, 0, none⟩)] w fun e w' => e = .returned (.tuple #[]) ∧ BAt w' b 0 1 s sb bk p ∧ Only b w w' := by
  have HS := hid (FInv.start hB)
  clear hB
  go_enter Try.func33, Try.ntmps33
  go_wp2
  go_loopw [5] (fun i wr => ∃ j : Nat, j ≤ 256 ∧ i = .int .i64 j ∧ FInv b s p w wr j) (fun i _ => 256 - (intOf i).toNat)
  case atStart => exact ⟨0, by omega, rfl, HS.out⟩
  case round =>
    obtain ⟨j, hj, rfl, hI⟩ := hrel
    have HI := hid hI
    clear hI
    by_cases hlt : j < 256
    · have HX := hid (fun w => subst_any j w hlt)
      obtain ⟨y, hy⟩ : ∃ y, sb j = y := ⟨_, rfl⟩
      have ly : y < 256 := hy ▸ sb_lt j
      rw [hy] at HX
      have HY := hid hy
      clear hy
      go_wp2_with (first | (go_at_call 31; (with_reducible refine (HX.out _).mono ?_); rintro e w1 ⟨rfl, hlow⟩; have HJ := hid (HI.out.on hlow); clear hlow))
      have HK := hid HJ.out.box.drew
      have hc1 := HK.out.cf hlt
      have hf1 := HK.out.free (3 + j)
      have hc2 := HK.out.cg ly
      have hf2 := HK.out.free (259 + y)
      have hn1 : 259 + y ≠ 3 + j := by omega
      have hn2 : 3 + j ≠ 259 + y := by omega
      have HT := hid (HJ.out.box.setf hlt y)
      have HU := hid (HJ.out.step hlt)
      rw [HY.out] at HU
      have hc3 := HT.out.drew.cg ly
      have hf3 := HT.out.drew.free (259 + y)
      have hc4 := HT.out.cg ly
      have hf4 := HT.out.free (259 + y)
      go_region
      go_wp2
      go_roundw
      case rel => exact ⟨j + 1, by omega, by go_num, HU.out.drew⟩
      case measure => simp [intOf]; omega
    · obtain rfl : j = 256 := by omega
      go_wp2
      go_end0
      exact ⟨rfl, HI.out.box.ext sbTo_all bkTo_all, HI.out.low⟩
end Go.Proofs.Ytnklljlgghenpaa
