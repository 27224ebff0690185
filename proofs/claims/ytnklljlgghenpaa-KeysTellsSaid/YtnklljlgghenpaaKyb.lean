import Derived.Test.YtnklljlgghenpaaProg
import Derived.Test.YtnklljlgghenpaaKya
import Derived.Deep.RegionLaw
namespace Go.Proofs.Ytnklljlgghenpaa
open Go.RowKit

/-- A row that is being filled while a box b is asked. -/
structure FillB (b : Nat) (w wr : World) (n : Nat) (f : Nat → Nat) (j : Nat) : Prop where
  row : At wr w.heap.size n 5 (upTo f j)
  box : Box wr b
  low : Only b w wr
theorem FillB.start {b : Nat} {w : World} (h : Box w b) (n : Nat) (f : Nat → Nat) : FillB b w (w.alloc (.cells (ba n (fun _ => 0)) 5)) n f 0 :=
  ⟨(At.new w n 5 (fun _ => 0)).ext (fun i _ => (if_neg (by omega)).symm), h.self ((Below.refl _ _).alloc (Nat.le_refl _) _), Only.of_below ((Below.refl _ _).alloc (Nat.le_refl _) _)⟩
theorem FillB.asked {b : Nat} {w wr w1 : World} {n : Nat} {f : Nat → Nat} {j : Nat} (h : FillB b w wr n f j) (hb : b < w.heap.size) (hx : Box w1 b) (ho : Only b wr w1) : FillB b w w1 n f j :=
  ⟨(ho.block _ h.row.lt (Nat.ne_of_gt hb)).trans h.row, hx, h.low.trans ho⟩
theorem below_only {b : Nat} {w wr : World} (h : Only b w wr) (a : Addr) (v : Value) (ha : w.heap.size ≤ a.block) : Only b w (wr.setCell a v) :=
  ⟨h.os, h.tape, h.output, by simpa [World.setCell] using h.size, fun j hj hn => (heap_setCell_other wr a j v (by omega)).trans (h.block j hj hn)⟩
theorem FillB.step {b : Nat} {w wr : World} {n : Nat} {f : Nat → Nat} {j : Nat} (h : FillB b w wr n f j) (hb : b < w.heap.size) {z : Nat} (hz : z = f j) : FillB b w (wr.setCell ⟨w.heap.size, j, none⟩ (.int .u8 (z : Int))) n f (j + 1) := by
  refine ⟨(h.row.set j z).ext (fun i _ => ?_), h.box.set (Nat.ne_of_lt hb) _, below_only h.low _ _ (Nat.le_refl _)⟩
  unfold upd upTo
  by_cases e : i = j
  · subst e; simp [hz]
  · rw [if_neg e]
    by_cases h1 : i < j
    · rw [if_pos h1, if_pos (by omega)]
    · rw [if_neg h1, if_neg (by omega)]

set_option maxRecDepth 100000 in
theorem substituted_any (b g o c : Nat) (f : Nat → Nat) (w : World) (hB : Box w b) (hA : Wd w 4 g o f) (hn : g ≠ b) :
    Calls Try.prog 28 #[.pointer (some ⟨b, 0, none⟩), .slice (some ⟨g, o, none⟩) 4 c] w fun e w' =>
      e = .returned (.slice (some ⟨w.heap.size, 0, none⟩) 4 4) ∧ At w' w.heap.size 4 5 (fun j => sb (f j)) ∧ Box w' b ∧ Only b w w' := by
  have HMK := hid (make_bytes 4 (by decide))
  have HS := hid (FillB.start hB 4 (fun j => sb (f j)))
  have HA := hid hA
  have hlb := hB.lt
  have hmk : ∀ w : World, (Instr.makeSlice 22 (.int .i64 4) (.int .i64 4)).run Try.prog w = .ok (.slice (some ⟨w.heap.size, 0, none⟩) 4 4) (w.alloc (.cells (ba 4 (fun _ => 0)) 5)) := HMK.out
  clear hA hB
  go_enter Try.func28, Try.ntmps28
  go_wp2
  go_loopw [13] (fun i wr => ∃ j : Nat, j ≤ 4 ∧ i = .int .i64 j ∧ FillB b w wr 4 (fun j => sb (f j)) j) (fun i _ => 4 - (intOf i).toNat)
  case atStart => exact ⟨0, by omega, rfl, HS.out⟩
  case round =>
    obtain ⟨j, hj, rfl, hI⟩ := hrel
    have HI := hid hI
    clear hI hmk
    by_cases hlt : j < 4
    · have hx := HA.out.byte j hlt
      have HC := hid (fun w h => sub_box b (f j) w hx h)
      have HA1 := hid (HA.out.only HI.out.low hn)
      have hc1 := HA1.out.cell j hlt
      have h0 : (0 : Int) ≤ (j : Int) := by omega
      have h4 : (j : Int) < 4 := by omega
      obtain ⟨y, hy⟩ : ∃ y, sb (f j) = y := ⟨_, rfl⟩
      rw [hy] at HC
      have HY := hid hy
      clear hx hy
      generalize hxx : f j = x at *
      have HXX := hid hxx
      clear hxx
      go_wp2_with (first | (go_at_call 30; (with_reducible refine (HC.out _ HI.out.box).mono ?_); rintro e w1 ⟨rfl, hbx, ho⟩; have HJ := hid (HI.out.asked hlb hbx ho); have hc2 := HJ.out.row.cell hlt; have hf2 := HJ.out.row.free j; clear hbx ho))
      go_roundw
      case rel => exact ⟨j + 1, by omega, by go_num, HJ.out.step hlb (by rw [HXX.out]; exact HY.out.symm)⟩
      case measure => simp [intOf]; omega
    · obtain rfl : j = 4 := by omega
      go_wp2
      go_ret
      exact ⟨rfl, HI.out.row.ext (upTo_all _), HI.out.box, HI.out.low⟩

set_option maxRecDepth 100000 in
theorem turned_any (g o : Nat) (f : Nat → Nat) (w : World) (hA : Wd w 4 g o f) :
    Calls Try.prog 29 #[.slice (some ⟨g, o, none⟩) 4 4] w fun e w' =>
      ∃ g' c', e = .returned (.slice (some ⟨g', 0, none⟩) 4 c') ∧ w.heap.size ≤ g' ∧ Wd w' 4 g' 0 (fun j => f ((j + 1) % 4)) ∧ Below w.heap.size w w' := by
  have hc0 : w.drew.cell? ⟨g, o, none⟩ = some (.int .u8 (f 0 : Int)) := hA.drew.cell 0 (by omega)
  have HA := hid hA
  clear hA
  go_enter Try.func29, Try.ntmps29
  go_wp2
  go_region_law (refine step_append_new rfl (.tmp 4) (.tmp 8) 22 rfl .u8 5 Try.underlying22 infob (by decide) ⟨g, o + 1, none⟩ 3 3 (ns 3 (fun j => f (j + 1))) (by simp [Act.eval]) (ns_len _ _) (fun j hj => by rw [ns_nth _ hj, Addr.add_mid, Nat.add_assoc, Nat.add_comm 1 j]; exact (HA.out.drew.alloc _).cell (j + 1) (by omega)) ⟨w.heap.size, 0, none⟩ 1 1 [(f 0 : Int)] (by simp [Act.eval]) rfl (cell_new_int_drew w .u8 _ 5) (by decide) (by decide) ?_; intro g' c' w' hown hg hlow)
  have HO := hid hown
  have HG := hid hg
  have HL := hid hlow
  clear hown hg hlow
  go_wp2
  go_ret
  have e4 : ns 3 (fun j => f (j + 1)) ++ [(f 0 : Int)] = ns 4 (fun j => f ((j + 1) % 4)) := rfl
  refine ⟨g', c', rfl, Nat.le_trans (by simp) HG.out, Wd.of_own (by rw [← e4]; exact HO.out) (by decide) (fun j hj => HA.out.byte _ (Nat.mod_lt _ (by decide))), (((Below.refl w.heap.size w).drew).alloc (by simp) _).trans (HL.out.mono (by simp))⟩
end Go.Proofs.Ytnklljlgghenpaa
