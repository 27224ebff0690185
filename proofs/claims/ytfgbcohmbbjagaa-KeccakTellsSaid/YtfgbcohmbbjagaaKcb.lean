import Derived.Test.YtfgbcohmbbjagaaKca
namespace Go.Proofs.Ytfgbcohmbbjagaa
open Go.RowKit

theorem info23 : (Try.prog.info? 23).map (·.size) = some 25 := by kernel_rfl
theorem info22 : (Try.prog.info? 22).map (·.size) = some 1 := by kernel_rfl
theorem info3 : (Try.prog.info? 3).map (·.size) = some 1 := by kernel_rfl
theorem info32 : (Try.prog.info? 32).map (·.size) = some 24 := by kernel_rfl
theorem info36 : (Try.prog.info? 36).map (·.size) = some 25 := by kernel_rfl
theorem info39 : (Try.prog.info? 39).map (·.size) = some 5 := by kernel_rfl
theorem idx23 (f : Nat → Nat) {j : Nat} (hj : j < 25) (w : World) : (Instr.index 23 (.agg (wa 25 f)) (.int .i64 (j : Int))).run Try.prog w = .ok (.int .u64 (f j : Int)) w := run_index_wa w 23 22 25 f j Try.underlying23 Try.underlying22 info22 hj
theorem idx32 (f : Nat → Nat) {j : Nat} (hj : j < 24) (w : World) : (Instr.index 32 (.agg (wa 24 f)) (.int .i64 (j : Int))).run Try.prog w = .ok (.int .u64 (f j : Int)) w := run_index_wa w 32 22 24 f j Try.underlying32 Try.underlying22 info22 hj
theorem idx36 (f : Nat → Nat) {j : Nat} (hj : j < 25) (w : World) : (Instr.index 36 (.agg (ia 25 f)) (.int .i64 (j : Int))).run Try.prog w = .ok (.int .i64 (f j : Int)) w := run_index_ia w 36 3 25 f j Try.underlying36 Try.underlying3 info3 hj
theorem x64 {a b : Nat} (ha : a < 2 ^ 64) (hb : b < 2 ^ 64) : bits .xor .u64 (a : Int) (b : Int) = ((a ^^^ b : Nat) : Int) := bits_xor_u64_nat a b (by omega) (by omega)

/-! ### turns -/
structure TInv (w wr : World) (t : Nat) : Prop where
  out : Ai wr w.heap.size 25 36 (fun _ => 0)
  var : Ai wr (w.heap.size + 1) 25 36 (tuN t)
  low : Below w.heap.size w wr
theorem TInv.start (w : World) : TInv w ((w.alloc (.cells (ia 25 (fun _ => 0)) 36)).alloc (.cells (ia 25 (fun _ => 0)) 36)) 0 := by
  refine ⟨(Ai.new w 25 36 (fun _ => 0)).alloc _, ?_, ((Below.refl _ _).alloc (Nat.le_refl _) _).alloc (by simp) _⟩
  have := Ai.new (w.alloc (.cells (ia 25 (fun _ => 0)) 36)) 25 36 (fun _ => 0)
  rw [World.size_alloc] at this
  exact this
theorem TInv.step {w wr : World} {t : Nat} (h : TInv w wr t) {z : Nat} (hz : z = (t + 1) * (t + 2) / 2 % 64) : TInv w (wr.setCell ⟨w.heap.size + 1, pth t, none⟩ (.int .i64 (z : Int))) (t + 1) := by
  subst hz
  exact ⟨h.out.apart (by simp) _, h.var.set (pth t) _, h.low.setCell (by simp) _⟩

set_option maxRecDepth 100000 in
set_option maxHeartbeats 800000 in
theorem turns_any (w : World) :
    Calls Try.prog 26 #[] w fun e w' => e = .returned (.agg (ia 25 tun)) ∧ Below w.heap.size w w' := by
  have HS := hid (TInv.start w)
  have HP := hid pth_lt
  have HN : Hid (∀ t, pth (t + 1) = dst (pth t)) := hid (fun _ => rfl)
  go_enter Try.func26, Try.ntmps26
  go_wp2_with (first | (go_at_call 27; refine (place_any 1 0 _ (by decide) (by decide)).mono ?_; rintro e w1 ⟨rfl, rfl⟩))
  go_loopw [2, 5] (fun a i wr => ∃ t : Nat, t ≤ 24 ∧ i = .int .i64 t ∧ a = .int .i64 (pth t : Nat) ∧ TInv w wr t) (fun _ i _ => 24 - (intOf i).toNat)
  case atStart => exact ⟨0, by omega, rfl, rfl, HS.out⟩
  case round =>
    obtain ⟨t, ht, rfl, rfl, hI⟩ := hrel
    have HI := hid hI
    clear hI
    by_cases hlt : t < 24
    · obtain ⟨u, hu⟩ : ∃ u, (t + 1) * (t + 2) = u := ⟨_, rfl⟩
      have hu2 : u ≤ 600 := by rw [← hu]; exact Nat.mul_le_mul (show t + 1 ≤ 24 by omega) (show t + 2 ≤ 25 by omega)
      have e1 : ((t : Int) + 1) * ((t : Int) + 2) = (u : Int) := by rw [← hu]; simp
      have w1 : IntKind.i64.wrap (u : Int) = u := by rw [IntKind.wrap_i64]; omega
      have HU := hid hu
      clear hu
      have hp := HP.out t
      have hq := HN.out t
      have HQ := hid hq
      have hc := HI.out.var.cell hp
      have hf := HI.out.var.free (pth t)
      have HT := hid (fun z hz => HI.out.step (z := z) hz)
      obtain ⟨a, ha⟩ : ∃ a, pth t = a := ⟨_, rfl⟩
      rw [ha] at hp hc hf HT HQ
      have HD := hid (fun w => target_any a w hp)
      rw [ha]
      clear ha hq
      go_wp2_with (first | (go_at_call 31; (with_reducible refine (HD.out _).mono ?_); rintro e w1 ⟨rfl, rfl⟩))
      go_roundw
      case rel => exact ⟨t + 1, by omega, by go_num, by rw [HQ.out], by have := HT.out (u / 2 % 64) (by rw [HU.out]); simpa using this⟩
      case measure => simp [intOf]; omega
    · obtain rfl : t = 24 := by omega
      have HM := hid HI.out.var
      have HN := hid HI.out.out
      go_wp2_with (first
        | (refine step_load_ia rfl 36 _ rfl (w.heap.size + 1) 25 36 3 _ rfl HM.out Try.underlying36 info36 ?_)
        | (refine step_store_ia rfl 36 _ _ rfl w.heap.size 25 36 _ _ rfl rfl HN.out info36 ?_))
      exact ret_ia rfl rfl Try.underlying36 info36 rfl (HI.out.out.row (tuN 24)) ⟨rfl, below_setRow HI.out.low (Nat.le_refl _) _⟩

/-! ### marks -/
structure MInv (w wr : World) (i j : Nat) : Prop where
  out : Aw wr w.heap.size 24 32 (fun _ => 0)
  var : Aw wr (w.heap.size + 1) 24 32 (mkN i j)
  low : Below w.heap.size w wr
theorem MInv.start (w : World) : MInv w ((w.alloc (.cells (wa 24 (fun _ => 0)) 32)).alloc (.cells (wa 24 (fun _ => 0)) 32)) 0 0 := by
  refine ⟨(Aw.new w 24 32 (fun _ => 0)).alloc _, ?_, ((Below.refl _ _).alloc (Nat.le_refl _) _).alloc (by simp) _⟩
  have := Aw.new (w.alloc (.cells (wa 24 (fun _ => 0)) 32)) 24 32 (fun _ => 0)
  rw [World.size_alloc] at this
  rw [mkN_zero]
  exact this
theorem MInv.step {w wr : World} {i j : Nat} (h : MInv w wr i j) {z : Nat} (hz : z = mkP i (j + 1)) : MInv w (wr.setCell ⟨w.heap.size + 1, i, none⟩ (.int .u64 (z : Int))) i (j + 1) := by
  refine ⟨h.out.apart (by simp) _, ?_, h.low.setCell (by simp) _⟩
  rw [← mkN_step i j hz]
  exact h.var.set i z
theorem MInv.drew {w wr : World} {i j : Nat} (h : MInv w wr i j) : MInv w wr.drew i j := ⟨h.out.drew, h.var.drew, h.low.drew⟩
theorem MInv.next {w wr : World} {i : Nat} (h : MInv w wr i 7) : MInv w wr (i + 1) 0 := by
  refine ⟨h.out, ?_, h.low⟩
  rw [← mkN_next]; exact h.var
end Go.Proofs.Ytfgbcohmbbjagaa
