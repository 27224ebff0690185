import Derived.Test.YthkanhhpkaigoaaProg
import Derived.Test.YthkanhhpkaigoaaAea
namespace Go.Proofs.Ythkanhhpkaigoaa
open Go.RowKit

/-- h in the places done, f behind. -/
def mkTo (h f : Nat → Nat) (j : Nat) : Nat → Nat := fun x => if x < j then h x else f x
theorem mkTo_zero (h f : Nat → Nat) : Eq16 f (mkTo h f 0) := fun _ _ => (if_neg (by omega)).symm
theorem mkTo_all (h f : Nat → Nat) : Eq16 (mkTo h f 16) h := fun _ hj => if_pos hj
theorem mkTo_at (h f : Nat → Nat) (j : Nat) : mkTo h f j j = f j := if_neg (by omega)
theorem mkTo_step (h f : Nat → Nat) {i z : Nat} (hz : h i = z) : Eq16 (upd (mkTo h f i) i z) (mkTo h f (i + 1)) := fun j _ => by
  unfold upd mkTo
  by_cases e : j = i
  · subst e; rw [if_pos rfl, if_pos (by omega), hz]
  · rw [if_neg e]
    by_cases h : j < i
    · rw [if_pos h, if_pos (by omega)]
    · rw [if_neg h, if_neg (by omega)]

/-- A boxed block that is turned, and the result's block n further on. -/
structure Var (n : Nat) (w wr : World) (g : Nat → Nat) : Prop where
  var : At wr w.heap.size 16 23 g
  out : At wr (w.heap.size + n) 16 23 (fun _ => 0)
  low : Below w.heap.size w wr
section
variable {n : Nat} {w wr w1 : World} {g g' : Nat → Nat}
theorem Var.start1 (w : World) (f : Nat → Nat) : Var 1 w ((w.alloc (.cells (ba 16 f) 23)).alloc (.cells (ba 16 (fun _ => 0)) 23)) f := by
  have h1 := At.new w 16 23 f
  have h2 := At.new (w.alloc (.cells (ba 16 f) 23)) 16 23 (fun _ => 0)
  rw [World.size_alloc] at h2
  exact ⟨h1.alloc _, h2, ((Below.refl _ _).alloc (Nat.le_refl _) _).alloc (by simp) _⟩
theorem Var.start2 (w : World) (f k : Nat → Nat) : Var 2 w (((w.alloc (.cells (ba 16 f) 23)).alloc (.cells (ba 16 k) 23)).alloc (.cells (ba 16 (fun _ => 0)) 23)) f := by
  have h1 := At.new w 16 23 f
  have h3 := At.new ((w.alloc (.cells (ba 16 f) 23)).alloc (.cells (ba 16 k) 23)) 16 23 (fun _ => 0)
  rw [World.size_alloc, World.size_alloc] at h3
  exact ⟨(h1.alloc _).alloc _, h3, (((Below.refl _ _).alloc (Nat.le_refl _) _).alloc (by simp) _).alloc (by simp; omega) _⟩
theorem Var.set (hn : 0 < n) (h : Var n w wr g) (j z : Nat) : Var n w (wr.setCell ⟨w.heap.size, j, none⟩ (.int .u8 (z : Int))) (upd g j z) :=
  ⟨h.var.set j z, h.out.apart (by simp; omega) _, h.low.setCell (by simp) _⟩
theorem Var.ext (h : Var n w wr g) (e : Eq16 g g') : Var n w wr g' := ⟨h.var.ext e, h.out, h.low⟩
theorem Var.drew (h : Var n w wr g) : Var n w wr.drew g := ⟨h.var.drew, h.out.drew, h.low.drew⟩
theorem Var.self (h : Var n w wr g) (hb : Below wr.heap.size wr w1) : Var n w w1 g := ⟨h.var.self hb, h.out.self hb, h.low.trans (hb.mono h.low.size)⟩
theorem Var.row (hn : 0 < n) (h : Var n w wr g) (k : Nat → Nat) : Var n w (wr.setRow w.heap.size (ba 16 k)) k :=
  ⟨h.var.row k, h.out.rowApart (by omega) _, below_setRow h.low (by omega) _⟩
theorem Var.done (h : Var n w wr g) (k : Nat → Nat) : At (wr.setRow (w.heap.size + n) (ba 16 k)) (w.heap.size + n) 16 23 k ∧ Below w.heap.size w (wr.setRow (w.heap.size + n) (ba 16 k)) :=
  ⟨h.out.row k, below_setRow h.low (by omega) _⟩
end
/-- .. where a box is asked. -/
structure VarB (b : Nat) (w wr : World) (g : Nat → Nat) : Prop where
  var : At wr w.heap.size 16 23 g
  out : At wr (w.heap.size + 1) 16 23 (fun _ => 0)
  box : Box wr b
  low : Only b w wr
section
variable {b : Nat} {w wr w1 : World} {g g' : Nat → Nat}
theorem VarB.start (w : World) (f : Nat → Nat) (hB : Box w b) : VarB b w ((w.alloc (.cells (ba 16 f) 23)).alloc (.cells (ba 16 (fun _ => 0)) 23)) f := by
  have h := Var.start1 w f
  exact ⟨h.var, h.out, hB.self h.low, Only.of_below h.low⟩
theorem VarB.on (h : VarB b w wr g) (hb : b < w.heap.size) (hB : Box w1 b) (ho : Only b wr w1) : VarB b w w1 g :=
  ⟨(ho.block _ h.var.lt (by omega)).trans h.var, (ho.block _ h.out.lt (by omega)).trans h.out, hB, h.low.trans ho⟩
theorem VarB.set (h : VarB b w wr g) (hb : b < w.heap.size) (j z : Nat) : VarB b w (wr.setCell ⟨w.heap.size, j, none⟩ (.int .u8 (z : Int))) (upd g j z) :=
  ⟨h.var.set j z, h.out.apart (by simp) _, h.box.set (by simp; omega) _, below_only h.low _ _ (by simp)⟩
theorem VarB.ext (h : VarB b w wr g) (e : Eq16 g g') : VarB b w wr g' := ⟨h.var.ext e, h.out, h.box, h.low⟩
theorem VarB.done (h : VarB b w wr g) (hb : b < w.heap.size) (k : Nat → Nat) :
    At (wr.setRow (w.heap.size + 1) (ba 16 k)) (w.heap.size + 1) 16 23 k ∧ Box (wr.setRow (w.heap.size + 1) (ba 16 k)) b ∧ Only b w (wr.setRow (w.heap.size + 1) (ba 16 k)) :=
  ⟨h.out.row k, h.box.same (setRow_other wr _ b _ (by omega)), ⟨h.low.os, h.low.tape, h.low.output, by simpa using h.low.size, fun j hj hn => (setRow_other wr _ j _ (by omega)).trans (h.low.block j hj hn)⟩⟩
end

set_option maxRecDepth 100000 in
set_option maxHeartbeats 800000 in
theorem sum16_any (f k : Nat → Nat) (w : World) (hf : B16 f) (hk : B16 k) : Calls Try.prog 31 #[.agg (ba 16 f), .agg (ba 16 k)] w fun e w' => e = .returned (.agg (ba 16 (addF f k))) ∧ Below w.heap.size w w' := by
  have HS := hid (Var.start2 w f k)
  have HK : Hid (At (((w.alloc (.cells (ba 16 f) 23)).alloc (.cells (ba 16 k) 23)).alloc (.cells (ba 16 (fun _ => 0)) 23)) (w.heap.size + 1) 16 23 k) := hid (by
    have h2 := At.new (w.alloc (.cells (ba 16 f) 23)) 16 23 k
    rw [World.size_alloc] at h2
    exact h2.alloc _)
  have HF := hid hf
  have HG := hid hk
  clear hf hk
  go_enter Try.func31, Try.ntmps31
  go_wp2_with (refine step_load_ba rfl 23 _ rfl (w.heap.size + 1) 16 23 5 k rfl HK.out Try.underlying23 infoa ?_)
  go_loopw [8] (fun i wr => ∃ j : Nat, j ≤ 16 ∧ i = .int .i64 j ∧ Var 2 w wr (mkTo (addF f k) f j)) (fun i _ => 16 - (intOf i).toNat)
  case atStart => exact ⟨0, by omega, rfl, HS.out.ext (mkTo_zero _ _)⟩
  case round =>
    obtain ⟨j, hj, rfl, hI⟩ := hrel
    have HI := hid hI
    clear hI
    by_cases hlt : j < 16
    · have hi := idxa k hlt
      have HT := hid (fun z => HI.out.set (by decide) j z)
      have HE := hid (fun (z : Nat) (hz : addF f k j = z) => mkTo_step (addF f k) f hz)
      have hc := HI.out.var.cell hlt
      rw [mkTo_at] at hc
      have hfz := HI.out.var.free j
      have HX := hid (xor8 (HF.out j hlt) (HG.out j hlt))
      have HV : Hid (addF f k j = f j ^^^ k j) := hid rfl
      generalize mkTo (addF f k) f j = g at *
      generalize f j = x at *
      generalize k j = y at *
      go_wp2
      go_roundw
      case rel => exact ⟨j + 1, by omega, by go_num, by rw [HX.out]; exact (HT.out _).ext (HE.out _ HV.out)⟩
      case measure => simp [intOf]; omega
    · obtain rfl : j = 16 := by omega
      have HD := hid (HI.out.ext (mkTo_all _ _))
      go_wp2_with (first
        | (refine step_load_ba rfl 23 _ rfl w.heap.size 16 23 5 _ rfl HD.out.var Try.underlying23 infoa ?_)
        | (refine step_store_ba rfl 23 _ _ rfl (w.heap.size + 2) 16 23 (fun _ => 0) _ rfl rfl HD.out.out infoa ?_))
      exact ret_ba rfl rfl Try.underlying23 infoa rfl (HD.out.done _).1 ⟨rfl, (HD.out.done _).2⟩

set_option maxRecDepth 100000 in
set_option maxHeartbeats 800000 in
theorem each_sub (b : Nat) (f : Nat → Nat) (w : World) (hf : B16 f) (hB : Box w b) :
    Calls Try.prog 28 #[.agg (ba 16 f), .func (.func 29) #[.pointer (some ⟨b, 0, none⟩)] #[]] w fun e w' => e = .returned (.agg (ba 16 (subF f))) ∧ Box w' b ∧ Only b w w' := by
  have HS := hid (VarB.start w f hB)
  have HA : Hid (At ((w.alloc (.cells (ba 16 f) 23)).alloc (.cells (ba 16 (fun _ => 0)) 23)) w.heap.size 16 23 f) := hid HS.out.var
  have HF := hid hf
  have hb := hB.lt
  clear hf hB
  go_enter Try.func28, Try.ntmps28
  go_wp2_with (refine step_load_ba rfl 23 _ rfl w.heap.size 16 23 5 f rfl HA.out Try.underlying23 infoa ?_)
  go_loopw [8] (fun i wr => ∃ j : Nat, j ≤ 16 ∧ i = .int .i64 j ∧ VarB b w wr (mkTo (subF f) f j)) (fun i _ => 16 - (intOf i).toNat)
  case atStart => exact ⟨0, by omega, rfl, HS.out.ext (mkTo_zero _ _)⟩
  case round =>
    obtain ⟨j, hj, rfl, hI⟩ := hrel
    have HI := hid hI
    clear hI
    by_cases hlt : j < 16
    · have hi := idxa f hlt
      have HC := hid (sub_box b (f j) wr (HF.out j hlt) HI.out.box)
      have HE := hid (fun (z : Nat) (hz : subF f j = z) => mkTo_step (subF f) f hz)
      have HV : Hid (subF f j = sb (f j)) := hid rfl
      generalize mkTo (subF f) f j = g at *
      generalize sb (f j) = z at *
      generalize f j = x at *
      go_wp2_with (first | (go_at_call 29; (with_reducible refine (HC.out).mono ?_); rintro e w1 ⟨rfl, hbx, ho⟩; have HJ := hid (HI.out.on hb hbx ho); have hc := HJ.out.var.cell hlt; have hfz := HJ.out.var.free j; clear hbx ho))
      go_roundw
      case rel => exact ⟨j + 1, by omega, by go_num, (HJ.out.set hb j z).ext (HE.out _ HV.out)⟩
      case measure => simp [intOf]; omega
    · obtain rfl : j = 16 := by omega
      have HD := hid (HI.out.ext (mkTo_all _ _))
      go_wp2_with (first
        | (refine step_load_ba rfl 23 _ rfl w.heap.size 16 23 5 _ rfl HD.out.var Try.underlying23 infoa ?_)
        | (refine step_store_ba rfl 23 _ _ rfl (w.heap.size + 1) 16 23 (fun _ => 0) _ rfl rfl HD.out.out infoa ?_))
      exact ret_ba rfl rfl Try.underlying23 infoa rfl (HD.out.done hb _).1 ⟨rfl, (HD.out.done hb _).2⟩

/-! ### the box's Back -/
set_option maxRecDepth 100000 in
set_option maxHeartbeats 1600000 in
theorem back_first (b x : Nat) (s : Int) (p : Option Addr) (w : World) (hx : x < 256) (hB : BAt w b 0 0 s zt zt p) :
    Calls Try.prog 32 #[.pointer (some ⟨b, 0, none⟩), .int .u8 (x : Int)] w fun e w' => e = .returned (.int .u8 (bk x : Nat)) ∧ BAt w' b 1 0 s sb bk p ∧ Only b w w' := by
  have HD := hid (dobox_first b s p w hB)
  have hmf : ∀ (fn : Fn) (first cap : Array Value) (w : World), (Instr.makeFunc fn first cap).run Try.prog w = .ok (.func fn first cap) w := fun _ _ _ _ => rfl
  clear hB
  go_enter Try.func32, Try.ntmps32
  go_wp2_with (first
    | (go_at_call 41; (with_reducible refine HD.out.mono ?_); rintro e w2 ⟨rfl, hf2, ho2⟩; have HF2 := hid hf2; have HO2 := hid ho2; have hc := hf2.cg hx; clear hf2 ho2))
  go_ret
  exact ⟨rfl, HF2.out, HO2.out⟩
theorem back_box (b x : Nat) (w : World) (hx : x < 256) (h : Box w b) :
    Calls Try.prog 32 #[.pointer (some ⟨b, 0, none⟩), .int .u8 (x : Int)] w fun e w' => e = .returned (.int .u8 (bk x : Nat)) ∧ Box w' b ∧ Only b w w' := by
  obtain ⟨s, p, h | h⟩ := h
  · exact (back_first b x s p w hx h).mono fun e w' ⟨h1, h2, h3⟩ => ⟨h1, ⟨s, p, .inr h2⟩, h3⟩
  · exact (back_done b x s p w hx h).mono fun e w' ⟨h1, h2⟩ => ⟨h1, by rw [h2]; exact ⟨s, p, .inr h⟩, by rw [h2]; exact Only.refl b w⟩

set_option maxRecDepth 100000 in
set_option maxHeartbeats 800000 in
theorem each_back (b : Nat) (f : Nat → Nat) (w : World) (hf : B16 f) (hB : Box w b) :
    Calls Try.prog 28 #[.agg (ba 16 f), .func (.func 32) #[.pointer (some ⟨b, 0, none⟩)] #[]] w fun e w' => e = .returned (.agg (ba 16 (unsF f))) ∧ Box w' b ∧ Only b w w' := by
  have HS := hid (VarB.start w f hB)
  have HA : Hid (At ((w.alloc (.cells (ba 16 f) 23)).alloc (.cells (ba 16 (fun _ => 0)) 23)) w.heap.size 16 23 f) := hid HS.out.var
  have HF := hid hf
  have hb := hB.lt
  clear hf hB
  go_enter Try.func28, Try.ntmps28
  go_wp2_with (refine step_load_ba rfl 23 _ rfl w.heap.size 16 23 5 f rfl HA.out Try.underlying23 infoa ?_)
  go_loopw [8] (fun i wr => ∃ j : Nat, j ≤ 16 ∧ i = .int .i64 j ∧ VarB b w wr (mkTo (unsF f) f j)) (fun i _ => 16 - (intOf i).toNat)
  case atStart => exact ⟨0, by omega, rfl, HS.out.ext (mkTo_zero _ _)⟩
  case round =>
    obtain ⟨j, hj, rfl, hI⟩ := hrel
    have HI := hid hI
    clear hI
    by_cases hlt : j < 16
    · have hi := idxa f hlt
      have HC := hid (back_box b (f j) wr (HF.out j hlt) HI.out.box)
      have HE := hid (fun (z : Nat) (hz : unsF f j = z) => mkTo_step (unsF f) f hz)
      have HV : Hid (unsF f j = bk (f j)) := hid rfl
      generalize mkTo (unsF f) f j = g at *
      generalize bk (f j) = z at *
      generalize f j = x at *
      go_wp2_with (first | (go_at_call 32; (with_reducible refine (HC.out).mono ?_); rintro e w1 ⟨rfl, hbx, ho⟩; have HJ := hid (HI.out.on hb hbx ho); have hc := HJ.out.var.cell hlt; have hfz := HJ.out.var.free j; clear hbx ho))
      go_roundw
      case rel => exact ⟨j + 1, by omega, by go_num, (HJ.out.set hb j z).ext (HE.out _ HV.out)⟩
      case measure => simp [intOf]; omega
    · obtain rfl : j = 16 := by omega
      have HD := hid (HI.out.ext (mkTo_all _ _))
      go_wp2_with (first
        | (refine step_load_ba rfl 23 _ rfl w.heap.size 16 23 5 _ rfl HD.out.var Try.underlying23 infoa ?_)
        | (refine step_store_ba rfl 23 _ _ rfl (w.heap.size + 1) 16 23 (fun _ => 0) _ rfl rfl HD.out.out infoa ?_))
      exact ret_ba rfl rfl Try.underlying23 infoa rfl (HD.out.done hb _).1 ⟨rfl, (HD.out.done hb _).2⟩
end Go.Proofs.Ythkanhhpkaigoaa
