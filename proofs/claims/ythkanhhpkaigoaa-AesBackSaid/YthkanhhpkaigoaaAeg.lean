import Derived.Test.YthkanhhpkaigoaaProg
import Derived.Test.YthkanhhpkaigoaaAee
import Derived.Deep.LoopGhost
namespace Go.Proofs.Ythkanhhpkaigoaa
open Go.RowKit

set_option maxRecDepth 100000 in
theorem eqA {f g : Nat → Nat} {b : Bool} (h : Eq16 f g ↔ b = true) (w : World) : (Op.equalIn 10000 23 (.agg (ba 16 f)) (.agg (ba 16 g))).run Try.prog w = .ok b w := by
  have h' := run_eq_ba (P := Try.prog) w 9998 23 5 16 f g Try.underlying23 Try.underlying5 info5
  rw [h']
  congr 1
  cases b
  · simp only [Bool.false_eq_true, iff_false] at h; exact decide_eq_false h
  · exact decide_eq_true (h.2 rfl)
theorem guardA : Try.prog.eqGuardType Try.prog.depth 23 = false := by kernel_rfl
theorem eq16_bool (f g : Nat → Nat) : ∃ q : Bool, Eq16 f g ↔ q = true := by
  by_cases h : Eq16 f g
  · exact ⟨true, by simp [h]⟩
  · exact ⟨false, by simp [h]⟩

/-- Columns, k times. -/
def itC (f : Nat → Nat) : Nat → Nat → Nat
  | 0 => f
  | k + 1 => mxC (itC f k)
theorem itC_b {f : Nat → Nat} (h : B16 f) : ∀ k, B16 (itC f k)
  | 0 => h
  | k + 1 => mxC_b (itC_b h k)
theorem itC_four {f : Nat → Nat} (h : B16 f) : Eq16 (itC f 4) f := col4 h
theorem itC_end {f : Nat → Nat} (h : B16 f) {k : Nat} (e : Eq16 (itC f (k + 1)) f) : Eq16 (itC f k) (mxB f) :=
  (bcol_col (itC_b h k)).symm.trans (mxB_e e)

/-- BackColumns on its way. -/
structure BC (w wr : World) (f : Nat → Nat) (n : Nat) (x y : Nat → Nat) : Prop where
  arg : At wr w.heap.size 16 23 f
  out : At wr (w.heap.size + 1) 16 23 (fun _ => 0)
  ahead : At wr (w.heap.size + 2) 16 23 x
  next : At wr n 16 23 y
  far : w.heap.size + 2 < n
  low : Below w.heap.size w wr
section
variable {w wr w1 : World} {f x y z : Nat → Nat} {n : Nat}
theorem BC.self (h : BC w wr f n x y) (hb : Below wr.heap.size wr w1) : BC w w1 f n x y :=
  ⟨h.arg.self hb, h.out.self hb, h.ahead.self hb, h.next.self hb, h.far, h.low.trans (hb.mono h.low.size)⟩
theorem BC.setA (h : BC w wr f n x y) (z : Nat → Nat) : BC w (wr.setRow (w.heap.size + 2) (ba 16 z)) f n z y :=
  ⟨h.arg.rowApart (by omega) _, h.out.rowApart (by omega) _, h.ahead.row z, h.next.rowApart (by have := h.far; omega) _, h.far, below_setRow h.low (by omega) _⟩
theorem BC.setN (h : BC w wr f n x y) (z : Nat → Nat) : BC w (wr.setRow n (ba 16 z)) f n x z :=
  ⟨h.arg.rowApart (by have := h.far; omega) _, h.out.rowApart (by have := h.far; omega) _, h.ahead.rowApart (by have := h.far; omega) _, h.next.row z, h.far, below_setRow h.low (by have := h.far; omega) _⟩
theorem BC.move (h : BC w wr f n x y) (z : Nat → Nat) : BC w ((wr.alloc (.cells (ba 16 (fun _ => 0)) 23)).setRow wr.heap.size (ba 16 z)) f wr.heap.size x z := by
  have hl := h.ahead.lt
  have hl1 := h.arg.lt
  have hl2 := h.out.lt
  exact ⟨(h.arg.alloc _).rowApart (by omega) _, (h.out.alloc _).rowApart (by omega) _, (h.ahead.alloc _).rowApart (by omega) _, (At.new wr 16 23 _).row z, hl, below_setRow (h.low.alloc h.low.size _) h.low.size _⟩
theorem BC.start (h : Tri w wr f x) (z : Nat → Nat) : BC w ((wr.alloc (.cells (ba 16 (fun _ => 0)) 23)).setRow wr.heap.size (ba 16 z)) f wr.heap.size x z := by
  have hl := h.var.lt
  have hl1 := h.arg.lt
  have hl2 := h.out.lt
  exact ⟨(h.arg.alloc _).rowApart (by omega) _, (h.out.alloc _).rowApart (by omega) _, (h.var.alloc _).rowApart (by omega) _, (At.new wr 16 23 _).row z, hl, below_setRow (h.low.alloc h.low.size _) h.low.size _⟩
theorem BC.done (h : BC w wr f n x y) (z : Nat → Nat) : At (wr.setRow (w.heap.size + 1) (ba 16 z)) (w.heap.size + 1) 16 23 z ∧ Below w.heap.size w (wr.setRow (w.heap.size + 1) (ba 16 z)) :=
  ⟨h.out.row z, below_setRow h.low (by omega) _⟩
end

set_option maxRecDepth 100000 in
set_option maxHeartbeats 1600000 in
theorem backColumns_any (f : Nat → Nat) (w : World) (h : B16 f) : Calls Try.prog 11 #[.agg (ba 16 f)] w fun e w' => e = .returned (.agg (ba 16 (mxB f))) ∧ Below w.heap.size w w' := by
  have HS := hid (Tri.start w f)
  have HS1 := hid (HS.out.row f)
  have HS0 := hid (Var.start1 w f)
  have HF := hid h
  have HC := hid (fun k w => columns_any16 (itC f k) w (itC_b h k))
  have HC0 : Hid (∀ w, Calls Try.prog 7 #[.agg (ba 16 f)] w fun e w' => e = .returned (.agg (ba 16 (itC f 1))) ∧ Below w.heap.size w w') := hid (HC.out 0)
  have HZ : Hid (Eq16 (itC f 4) f) := hid (itC_four h)
  have HX : Hid (∀ k, Eq16 (itC f (k + 1)) f → Eq16 (itC f k) (mxB f)) := hid (fun k e => itC_end h e)
  have HN : Hid (∀ k, mxC (itC f k) = itC f (k + 1)) := hid (fun _ => rfl)
  have H0 : Hid (itC f 0 = f) := hid rfl
  generalize itC f = I at *
  clear h
  go_enter Try.func11, Try.ntmps11
  go_wp2_with (first
    | (refine step_load_ba rfl 23 (.tmp 1) rfl w.heap.size 16 23 5 f rfl HS0.out.var Try.underlying23 infoa ?_)
    | (refine step_store_ba rfl 23 (.tmp 3) (.tmp 5) rfl (w.heap.size + 2) 16 23 (fun _ => 0) f rfl rfl HS.out.var infoa ?_)
    | (refine step_load_ba rfl 23 (.tmp 3) rfl (w.heap.size + 2) 16 23 5 f rfl HS1.out.var Try.underlying23 infoa ?_)
    | (go_at_call 7; (with_reducible refine (HC0.out _).mono ?_); rintro e w1 ⟨rfl, hlow⟩; have HT := hid (HS1.out.self hlow); clear hlow; have HB := hid (BC.start HT.out (I 1)))
    | (refine step_store_ba rfl 23 (.tmp 4) (.tmp 7) rfl w1.heap.size 16 23 (fun _ => 0) (I 1) rfl rfl (At.new w1 16 23 (fun _ => 0)) infoa ?_))
  clear HS0 HC0
  simp only [Act.put]
  go_loopg [4] 3 (fun m v wr => ∃ k n : Nat, k + m = 3 ∧ v = .pointer (some ⟨n, 0, none⟩) ∧ BC w wr f n (I k) (I (k + 1)))
  case atStart => exact ⟨0, w1.heap.size, by omega, rfl, by rw [H0.out]; exact HB.out⟩
  case round =>
    obtain ⟨k, n, hk, rfl, hI⟩ := hrel
    have HI := hid hI
    clear hI HB HT
    have hk3 : k ≤ 3 := by omega
    obtain ⟨q, hq⟩ := eq16_bool (I (k + 1)) f
    have HQ := hid hq
    have heq := fun w => eqA hq w
    have hguard := guardA
    have HXk := hid (HX.out k)
    have HKM := hid hk
    clear hq hk
    cases q
    · have HNe : Hid (¬ Eq16 (I (k + 1)) f) := hid (by rw [HQ.out]; decide)
      have hlt : k + 1 ≤ 3 := by
        have hz := HZ.out
        have hn := HNe.out
        by_cases e : k = 3
        · subst e; exact absurd hz hn
        · omega
      have HCk : Hid (∀ w, Calls Try.prog 7 #[.agg (ba 16 (I (k + 1)))] w fun e w' => e = .returned (.agg (ba 16 (I (k + 2)))) ∧ Below w.heap.size w w') := hid (fun w => by rw [← HN.out (k + 1)]; exact HC.out (k + 1) w)
      generalize hx : I k = x at *
      generalize hy : I (k + 1) = y at *
      have HY := hid hy
      clear hx hy
      have HJ := hid (HI.out.setA y)
      have HV : Hid (BC w (((wr.setRow (w.heap.size + 2) (ba 16 y)).alloc (.cells #[.int .u8 0, .int .u8 0, .int .u8 0, .int .u8 0, .int .u8 0, .int .u8 0, .int .u8 0, .int .u8 0, .int .u8 0, .int .u8 0, .int .u8 0, .int .u8 0, .int .u8 0, .int .u8 0, .int .u8 0, .int .u8 0] 23)).setRow (wr.setRow (w.heap.size + 2) (ba 16 y)).heap.size (ba 16 y)) f (wr.setRow (w.heap.size + 2) (ba 16 y)).heap.size y y) := hid (HJ.out.move y)
      go_wp2_with (first
        | (refine step_load_ba rfl 23 (.tmp 4) rfl n 16 23 5 y rfl HI.out.next Try.underlying23 infoa ?_)
        | (refine step_load_ba rfl 23 (.tmp 1) rfl w.heap.size 16 23 5 f rfl HI.out.arg Try.underlying23 infoa ?_)
        | (refine step_store_ba rfl 23 (.tmp 3) (.tmp 13) rfl (w.heap.size + 2) 16 23 x y rfl rfl HI.out.ahead infoa ?_; generalize wr.setRow (w.heap.size + 2) (ba 16 y) = w2 at *)
        | (refine step_load_ba rfl 23 (.tmp 4) rfl n 16 23 5 y rfl HJ.out.next Try.underlying23 infoa ?_)
        | (refine step_store_ba rfl 23 (.tmp 4) (.tmp 14) rfl w2.heap.size 16 23 (fun _ => 0) y rfl rfl (At.new w2 16 23 (fun _ => 0)) infoa ?_; generalize (w2.alloc (.cells #[.int .u8 0, .int .u8 0, .int .u8 0, .int .u8 0, .int .u8 0, .int .u8 0, .int .u8 0, .int .u8 0, .int .u8 0, .int .u8 0, .int .u8 0, .int .u8 0, .int .u8 0, .int .u8 0, .int .u8 0, .int .u8 0] 23)).setRow w2.heap.size (ba 16 y) = w3 at *; generalize w2.heap.size = n2 at *)
        | (refine step_load_ba rfl 23 (.tmp 3) rfl (w.heap.size + 2) 16 23 5 y rfl HV.out.ahead Try.underlying23 infoa ?_)
        | (go_at_call 7; (with_reducible refine (HCk.out _).mono ?_); rintro e w4 ⟨rfl, hlow⟩; have HV4 := hid (HV.out.self hlow); clear hlow)
        | (refine step_store_ba rfl 23 (.tmp 4) (.tmp 12) rfl n2 16 23 y (I (k + 2)) rfl rfl HV4.out.next infoa ?_; have HV5 := hid (HV4.out.setN (I (k + 2)))))
      go_roundg (gk - 1)
      case rel => exact ⟨k + 1, n2, by have := HKM.out; omega, rfl, by rw [HY.out]; exact HV5.out⟩
      case measure => have := HKM.out; omega
    · have HE : Hid (Eq16 (I k) (mxB f)) := hid (HXk.out (by rw [HQ.out]))
      generalize I (k + 1) = y at *
      generalize I k = x at *
      go_wp2_with (first
        | (refine step_load_ba rfl 23 (.tmp 4) rfl n 16 23 5 y rfl HI.out.next Try.underlying23 infoa ?_)
        | (refine step_load_ba rfl 23 (.tmp 1) rfl w.heap.size 16 23 5 f rfl HI.out.arg Try.underlying23 infoa ?_)
        | (refine step_load_ba rfl 23 (.tmp 3) rfl (w.heap.size + 2) 16 23 5 x rfl HI.out.ahead Try.underlying23 infoa ?_)
        | (refine step_store_ba rfl 23 (.tmp 2) (.tmp 15) rfl (w.heap.size + 1) 16 23 (fun _ => 0) x rfl rfl HI.out.out infoa ?_))
      exact ret_ba rfl rfl Try.underlying23 infoa rfl (HI.out.done x).1 ⟨by rw [ba_ext HE.out], (HI.out.done x).2⟩
end Go.Proofs.Ythkanhhpkaigoaa
