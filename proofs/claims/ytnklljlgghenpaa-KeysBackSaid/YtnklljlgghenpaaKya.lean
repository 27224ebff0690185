import Derived.Test.YtnklljlgghenpaaProg
import Derived.Test.YtnklljlgghenpaaKym
namespace Go.Proofs.Ytnklljlgghenpaa
open Go.RowKit

theorem infob : (Try.prog.info? 5).map (fun i => (i.zero, i.size, i.bytes)) = some (some (.int .u8 0), 1, IntKind.u8.bits / 8) := by kernel_rfl
theorem make_bytes (n : Nat) (h : n ≤ 65536) (w : World) : (Instr.makeSlice 22 (.int .i64 n) (.int .i64 n)).run Try.prog w = .ok (.slice (some ⟨w.heap.size, 0, none⟩) n n) (w.alloc (.cells (ba n (fun _ => 0)) 5)) := by
  have := run_make_ints (P := Try.prog) w .u8 .i64 22 5 n Try.underlying22 infob (by show n * 1 ≤ _; omega) (by decide)
  rw [this]
  congr 3
  apply Array.ext_getElem?
  intro i
  by_cases hi : i < n
  · rw [ba_get _ hi]; simp [madeCells, hi, Nat.mod_one]
  · rw [Array.getElem?_eq_none (by simp [size_madeCells]; omega), Array.getElem?_eq_none (by rw [ba_size]; omega)]

/-- A row of n bytes that is being filled by f, in block b. -/
structure Fill (w wr : World) (b n : Nat) (f : Nat → Nat) (j : Nat) : Prop where
  row : At wr b n 5 (upTo f j)
  low : Below w.heap.size w wr
theorem Fill.step {w wr : World} {b n : Nat} {f : Nat → Nat} {j : Nat} (h : Fill w wr b n f j) (hb : w.heap.size ≤ b) {z : Nat} (hz : z = f j) : Fill w (wr.setCell ⟨b, j, none⟩ (.int .u8 (z : Int))) b n f (j + 1) := by
  refine ⟨(h.row.set j z).ext (fun i _ => ?_), h.low.setCell hb _⟩
  unfold upd upTo
  by_cases e : i = j
  · subst e; simp [hz]
  · rw [if_neg e]
    by_cases h1 : i < j
    · rw [if_pos h1, if_pos (by omega)]
    · rw [if_neg h1, if_neg (by omega)]
theorem Fill.start (w : World) (n : Nat) (f : Nat → Nat) : Fill w (w.alloc (.cells (ba n (fun _ => 0)) 5)) w.heap.size n f 0 :=
  ⟨(At.new w n 5 (fun _ => 0)).ext (fun i _ => (if_neg (by omega)).symm), (Below.refl _ _).alloc (Nat.le_refl _) _⟩
theorem Fill.drew {w wr : World} {b n : Nat} {f : Nat → Nat} {j : Nat} (h : Fill w wr b n f j) : Fill w wr.drew b n f j := ⟨h.row.drew, h.low.drew⟩
theorem upTo_all {n : Nat} (f : Nat → Nat) : ∀ i, i < n → upTo f n i = f i := fun _ h => if_pos h

set_option maxRecDepth 100000 in
theorem sum_any (ga oa ca gb ob cb : Nat) (f g : Nat → Nat) (w : World) (hA : Wd w 4 ga oa f) (hB : Wd w 4 gb ob g) :
    Calls Try.prog 23 #[.slice (some ⟨ga, oa, none⟩) 4 ca, .slice (some ⟨gb, ob, none⟩) 4 cb] w fun e w' =>
      e = .returned (.slice (some ⟨w.heap.size, 0, none⟩) 4 4) ∧ Wd w' 4 w.heap.size 0 (fun j => f j ^^^ g j) ∧ Below w.heap.size w w' := by
  have HMK := hid (make_bytes 4 (by decide))
  have HS := hid (Fill.start w 4 (fun j => f j ^^^ g j))
  have HA := hid hA
  have HB := hid hB
  have hmk : ∀ w : World, (Instr.makeSlice 22 (.int .i64 4) (.int .i64 4)).run Try.prog w = .ok (.slice (some ⟨w.heap.size, 0, none⟩) 4 4) (w.alloc (.cells (ba 4 (fun _ => 0)) 5)) := HMK.out
  clear hA hB
  go_enter Try.func23, Try.ntmps23
  go_wp2
  go_loopw [12] (fun i wr => ∃ j : Nat, j ≤ 4 ∧ i = .int .i64 j ∧ Fill w wr w.heap.size 4 (fun j => f j ^^^ g j) j) (fun i _ => 4 - (intOf i).toNat)
  case atStart => exact ⟨0, by omega, rfl, HS.out⟩
  case round =>
    obtain ⟨j, hj, rfl, hI⟩ := hrel
    have HI := hid hI
    clear hI
    clear hmk
    by_cases hlt : j < 4
    · have hx := HA.out.byte j hlt
      have hy := HB.out.byte j hlt
      have HX := hid (xor8 hx hy)
      have HT := hid (HI.out.drew.step (Nat.le_refl _) (z := f j ^^^ g j) rfl)
      have HA1 := hid (HA.out.self HI.out.low)
      have HB1 := hid (HB.out.self HI.out.low)
      have hc1 := HA1.out.drew.cell j hlt
      have hc2 := HB1.out.drew.cell j hlt
      have hc3 := HI.out.drew.row.cell hlt
      have hf3 := HI.out.drew.row.free j
      have h0 : (0 : Int) ≤ (j : Int) := by omega
      have h4 : (j : Int) < 4 := by omega
      generalize upTo (fun j => f j ^^^ g j) j j = x0 at hc3
      clear hx hy
      go_wp2
      go_region
      go_wp2
      go_roundw
      case rel => exact ⟨j + 1, by omega, by go_num, by rw [HX.out]; exact HT.out⟩
      case measure => simp [intOf]; omega
    · obtain rfl : j = 4 := by omega
      go_wp2
      go_ret
      exact ⟨rfl, (Wd.of_at HI.out.row (fun j hj => by rw [upTo_all _ j hj]; exact xor_lt (HA.out.byte j hj) (HB.out.byte j hj))).ext (upTo_all _), HI.out.low⟩
end Go.Proofs.Ytnklljlgghenpaa
