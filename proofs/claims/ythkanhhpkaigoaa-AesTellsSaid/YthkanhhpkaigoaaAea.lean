import Derived.Test.YthkanhhpkaigoaaProg
import Derived.Test.YthkanhhpkaigoaaAem
namespace Go.Proofs.Ythkanhhpkaigoaa
open Go.RowKit

theorem infoa : (Try.prog.info? 23).map (·.size) = some 16 := by kernel_rfl
theorem idxa (f : Nat → Nat) {j : Nat} (hj : j < 16) (w : World) : (Instr.index 23 (.agg (ba 16 f)) (.int .i64 (j : Int))).run Try.prog w = .ok (.int .u8 (f j : Int)) w :=
  run_index_ba w 23 5 16 f j Try.underlying23 Try.underlying5 info5 hj

set_option maxRecDepth 100000 in
theorem moved_any (i : Nat) (w : World) (h : i < 16) : Calls Try.prog 22 #[.int .i64 (i : Int)] w fun e w' => e = .returned (.int .i64 (mvd i : Nat)) ∧ w' = w := by
  obtain ⟨a, ha, la⟩ : ∃ a, i % 4 = a ∧ a < 4 := ⟨_, rfl, by omega⟩
  obtain ⟨c, hc, lc⟩ : ∃ c, i / 4 = c ∧ c < 4 := ⟨_, rfl, by omega⟩
  obtain ⟨s, hs⟩ : ∃ s, c + 4 = s := ⟨_, rfl⟩
  obtain ⟨d, hd⟩ : ∃ d, s - a = d := ⟨_, rfl⟩
  obtain ⟨e, he, le⟩ : ∃ e, d % 4 = e ∧ e < 4 := ⟨_, rfl, by omega⟩
  obtain ⟨p, hp⟩ : ∃ p, 4 * e = p := ⟨_, rfl⟩
  obtain ⟨r, hr⟩ : ∃ r, a + p = r := ⟨_, rfl⟩
  have HR : Hid (mvd i = r) := hid (by unfold mvd; rw [ha, hc, hs, hd, he, hp, hr])
  have e1 : (i : Int) % 4 = (a : Int) := by omega
  have e2 : (i : Int) / 4 = (c : Int) := by omega
  have e3 : (c : Int) + 4 = (s : Int) := by omega
  have e4 : (s : Int) - (a : Int) = (d : Int) := by omega
  have e5 : (d : Int) % 4 = (e : Int) := by omega
  have e6 : 4 * (e : Int) = (p : Int) := by omega
  have e7 : (a : Int) + (p : Int) = (r : Int) := by omega
  have w3 : IntKind.i64.wrap (s : Int) = s := by rw [IntKind.wrap_i64]; omega
  have w4 : IntKind.i64.wrap (d : Int) = d := by rw [IntKind.wrap_i64]; omega
  have w6 : IntKind.i64.wrap (p : Int) = p := by rw [IntKind.wrap_i64]; omega
  have w7 : IntKind.i64.wrap (r : Int) = r := by rw [IntKind.wrap_i64]; omega
  have w1 : IntKind.i64.wrap (a : Int) = a := by rw [IntKind.wrap_i64]; omega
  have w2 : IntKind.i64.wrap (c : Int) = c := by rw [IntKind.wrap_i64]; omega
  have w5 : IntKind.i64.wrap (e : Int) = e := by rw [IntKind.wrap_i64]; omega
  have d0 : (0 : Int) ≤ (d : Int) := by omega
  clear ha hc hs hd he hp hr
  go_enter Try.func22, Try.ntmps22
  go_wp2
  go_ret
  exact ⟨by rw [HR.out]; rfl, rfl⟩

set_option maxRecDepth 100000 in
theorem below_any (i n : Nat) (w : World) (h : i < 16) (hn : n < 4) : Calls Try.prog 23 #[.int .i64 (i : Int), .int .i64 (n : Int)] w fun e w' => e = .returned (.int .i64 (nb i n : Nat)) ∧ w' = w := by
  obtain ⟨a, ha, la⟩ : ∃ a, i % 4 = a ∧ a < 4 := ⟨_, rfl, by omega⟩
  obtain ⟨c, hc, lc⟩ : ∃ c, i - a = c ∧ c < 16 := ⟨_, rfl, by omega⟩
  obtain ⟨s, hs⟩ : ∃ s, i + n = s := ⟨_, rfl⟩
  obtain ⟨d, hd⟩ : ∃ d, s % 4 = d := ⟨_, rfl⟩
  obtain ⟨r, hr⟩ : ∃ r, c + d = r := ⟨_, rfl⟩
  have HR : Hid (nb i n = r) := hid (by unfold nb; rw [ha, hc, hs, hd, hr])
  have e1 : (i : Int) % 4 = (a : Int) := by omega
  have e2 : (i : Int) - (a : Int) = (c : Int) := by omega
  have e3 : (i : Int) + (n : Int) = (s : Int) := by omega
  have e4 : (s : Int) % 4 = (d : Int) := by omega
  have e5 : (c : Int) + (d : Int) = (r : Int) := by omega
  have w1 : IntKind.i64.wrap (a : Int) = a := by rw [IntKind.wrap_i64]; omega
  have w2 : IntKind.i64.wrap (c : Int) = c := by rw [IntKind.wrap_i64]; omega
  have w3 : IntKind.i64.wrap (s : Int) = s := by rw [IntKind.wrap_i64]; omega
  have w4 : IntKind.i64.wrap (d : Int) = d := by rw [IntKind.wrap_i64]; omega
  have w5 : IntKind.i64.wrap (r : Int) = r := by rw [IntKind.wrap_i64]; omega
  clear ha hc hs hd hr
  go_enter Try.func23, Try.ntmps23
  go_wp2
  go_ret
  exact ⟨by rw [HR.out]; rfl, rfl⟩

/-! ### Rows, there and back -/
/-- What was boxed, the result and the block that is being made. -/
structure Tri (w wr : World) (f g : Nat → Nat) : Prop where
  arg : At wr w.heap.size 16 23 f
  out : At wr (w.heap.size + 1) 16 23 (fun _ => 0)
  var : At wr (w.heap.size + 2) 16 23 g
  low : Below w.heap.size w wr
theorem Tri.start (w : World) (f : Nat → Nat) : Tri w (((w.alloc (.cells (ba 16 f) 23)).alloc (.cells (ba 16 (fun _ => 0)) 23)).alloc (.cells (ba 16 (fun _ => 0)) 23)) f (fun _ => 0) := by
  have h1 := At.new w 16 23 f
  have h2 := At.new (w.alloc (.cells (ba 16 f) 23)) 16 23 (fun _ => 0)
  have h3 := At.new ((w.alloc (.cells (ba 16 f) 23)).alloc (.cells (ba 16 (fun _ => 0)) 23)) 16 23 (fun _ => 0)
  rw [World.size_alloc] at h2
  rw [World.size_alloc, World.size_alloc] at h3
  exact ⟨(h1.alloc _).alloc _, h2.alloc _, h3, (((Below.refl _ _).alloc (Nat.le_refl _) _).alloc (by simp) _).alloc (by simp; omega) _⟩
section
variable {w wr w1 : World} {f g g' : Nat → Nat}
theorem Tri.set (h : Tri w wr f g) (j z : Nat) : Tri w (wr.setCell ⟨w.heap.size + 2, j, none⟩ (.int .u8 (z : Int))) f (upd g j z) :=
  ⟨h.arg.apart (by simp) _, h.out.apart (by simp) _, h.var.set j z, h.low.setCell (by simp) _⟩
theorem Tri.ext (h : Tri w wr f g) (e : Eq16 g g') : Tri w wr f g' := ⟨h.arg, h.out, h.var.ext e, h.low⟩
theorem Tri.drew (h : Tri w wr f g) : Tri w wr.drew f g := ⟨h.arg.drew, h.out.drew, h.var.drew, h.low.drew⟩
theorem Tri.self (h : Tri w wr f g) (hb : Below wr.heap.size wr w1) : Tri w w1 f g := ⟨h.arg.self hb, h.out.self hb, h.var.self hb, h.low.trans (hb.mono h.low.size)⟩
theorem Tri.row (h : Tri w wr f g) (k : Nat → Nat) : Tri w (wr.setRow (w.heap.size + 2) (ba 16 k)) f k :=
  ⟨h.arg.rowApart (by omega) _, h.out.rowApart (by omega) _, h.var.row k, below_setRow h.low (by omega) _⟩
theorem Tri.done (h : Tri w wr f g) (k : Nat → Nat) : At (wr.setRow (w.heap.size + 1) (ba 16 k)) (w.heap.size + 1) 16 23 k ∧ Below w.heap.size w (wr.setRow (w.heap.size + 1) (ba 16 k)) :=
  ⟨h.out.row k, below_setRow h.low (by omega) _⟩
end
/-- Places written so far. -/
def shTo (f : Nat → Nat) (i : Nat) : Nat → Nat := fun j => if src j < i then f (src j) else 0
theorem shTo_zero (f : Nat → Nat) : Eq16 (fun _ => 0) (shTo f 0) := fun _ _ => (if_neg (by omega)).symm
theorem shTo_all (f : Nat → Nat) : Eq16 (shTo f 16) (shR f) := fun _ hj => if_pos (src_lt hj)
theorem shTo_step (f : Nat → Nat) {i : Nat} (hi : i < 16) : Eq16 (upd (shTo f i) (mvd i) (f i)) (shTo f (i + 1)) := fun j hj => by
  unfold upd shTo
  by_cases e : j = mvd i
  · subst e; rw [if_pos rfl, src_mvd i hi, if_pos (by omega)]
  · rw [if_neg e]
    by_cases h : src j < i
    · rw [if_pos h, if_pos (by omega)]
    · have : src j ≠ i := fun h' => e (by rw [← h', mvd_src j hj])
      rw [if_neg h, if_neg (by omega)]
def upF (g : Nat → Nat) (i : Nat) : Nat → Nat := fun j => if j < i then g j else 0
theorem upF_zero (g : Nat → Nat) : Eq16 (fun _ => 0) (upF g 0) := fun _ _ => (if_neg (by omega)).symm
theorem upF_all (g : Nat → Nat) : Eq16 (upF g 16) g := fun _ hj => if_pos hj
theorem upF_step (g : Nat → Nat) {i z : Nat} (hz : g i = z) : Eq16 (upd (upF g i) i z) (upF g (i + 1)) := fun j _ => by
  unfold upd upF
  by_cases e : j = i
  · subst e; rw [if_pos rfl, if_pos (by omega), hz]
  · rw [if_neg e]
    by_cases h : j < i
    · rw [if_pos h, if_pos (by omega)]
    · rw [if_neg h, if_neg (by omega)]

set_option maxRecDepth 100000 in
set_option maxHeartbeats 800000 in
theorem rows_any (f : Nat → Nat) (w : World) : Calls Try.prog 5 #[.agg (ba 16 f)] w fun e w' => e = .returned (.agg (ba 16 (shR f))) ∧ Below w.heap.size w w' := by
  have HS := hid (Tri.start w f)
  go_enter Try.func5, Try.ntmps5
  go_wp2_with (refine step_load_ba rfl 23 _ rfl w.heap.size 16 23 5 f rfl HS.out.arg Try.underlying23 infoa ?_)
  go_loopw [7] (fun i wr => ∃ j : Nat, j ≤ 16 ∧ i = .int .i64 j ∧ Tri w wr f (shTo f j)) (fun i _ => 16 - (intOf i).toNat)
  case atStart => exact ⟨0, by omega, rfl, HS.out.ext (shTo_zero f)⟩
  case round =>
    obtain ⟨j, hj, rfl, hI⟩ := hrel
    have HI := hid hI
    clear hI
    by_cases hlt : j < 16
    · have hi := idxa f hlt
      have HM := hid (fun w => moved_any j w hlt)
      have hm := mvd_lt hlt
      have HT := hid (fun z => HI.out.set (mvd j) z)
      have HE := hid (shTo_step f hlt)
      have hc := HI.out.var.cell hm
      have hf := HI.out.var.free (mvd j)
      generalize mvd j = m at *
      generalize shTo f j = g at *
      generalize f j = x at *
      go_wp2_with (first | (go_at_call 22; (with_reducible refine (HM.out _).mono ?_); rintro e w1 ⟨rfl, rfl⟩))
      go_roundw
      case rel => exact ⟨j + 1, by omega, by go_num, (HT.out x).ext HE.out⟩
      case measure => simp [intOf]; omega
    · obtain rfl : j = 16 := by omega
      have HD := hid (HI.out.ext (shTo_all f))
      go_wp2_with (first
        | (refine step_load_ba rfl 23 _ rfl (w.heap.size + 2) 16 23 5 _ rfl HD.out.var Try.underlying23 infoa ?_)
        | (refine step_store_ba rfl 23 _ _ rfl (w.heap.size + 1) 16 23 (fun _ => 0) _ rfl rfl HD.out.out infoa ?_))
      exact ret_ba rfl rfl Try.underlying23 infoa rfl (HD.out.done _).1 ⟨rfl, (HD.out.done _).2⟩

set_option maxRecDepth 100000 in
set_option maxHeartbeats 800000 in
theorem backRows_any (f : Nat → Nat) (w : World) : Calls Try.prog 9 #[.agg (ba 16 f)] w fun e w' => e = .returned (.agg (ba 16 (shB f))) ∧ Below w.heap.size w w' := by
  have HS := hid (Tri.start w f)
  go_enter Try.func9, Try.ntmps9
  go_wp2
  go_loopw [5] (fun i wr => ∃ j : Nat, j ≤ 16 ∧ i = .int .i64 j ∧ Tri w wr f (upF (shB f) j)) (fun i _ => 16 - (intOf i).toNat)
  case atStart => exact ⟨0, by omega, rfl, HS.out.ext (upF_zero _)⟩
  case round =>
    obtain ⟨j, hj, rfl, hI⟩ := hrel
    have HI := hid hI
    clear hI
    by_cases hlt : j < 16
    · have HM := hid (fun w => moved_any j w hlt)
      have hm := mvd_lt hlt
      have HT := hid (fun z => HI.out.set j z)
      have HE := hid (fun (z : Nat) (hz : shB f j = z) => upF_step (shB f) hz)
      have hc := HI.out.var.cell hlt
      have hf := HI.out.var.free j
      have hc1 := HI.out.arg.cell hm
      have HV : Hid (shB f j = f (mvd j)) := hid rfl
      generalize mvd j = m at *
      generalize upF (shB f) j = g at *
      generalize f m = x at *
      go_wp2_with (first | (go_at_call 22; (with_reducible refine (HM.out _).mono ?_); rintro e w1 ⟨rfl, rfl⟩))
      go_roundw
      case rel => exact ⟨j + 1, by omega, by go_num, (HT.out x).ext (HE.out x HV.out)⟩
      case measure => simp [intOf]; omega
    · obtain rfl : j = 16 := by omega
      have HD := hid (HI.out.ext (upF_all _))
      go_wp2_with (first
        | (refine step_load_ba rfl 23 _ rfl (w.heap.size + 2) 16 23 5 _ rfl HD.out.var Try.underlying23 infoa ?_)
        | (refine step_store_ba rfl 23 _ _ rfl (w.heap.size + 1) 16 23 (fun _ => 0) _ rfl rfl HD.out.out infoa ?_))
      exact ret_ba rfl rfl Try.underlying23 infoa rfl (HD.out.done _).1 ⟨rfl, (HD.out.done _).2⟩
end Go.Proofs.Ythkanhhpkaigoaa
