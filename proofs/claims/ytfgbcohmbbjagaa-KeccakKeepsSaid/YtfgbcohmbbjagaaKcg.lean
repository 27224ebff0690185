import Derived.Test.YtfgbcohmbbjagaaKcf
namespace Go.Proofs.Ytfgbcohmbbjagaa
open Go.RowKit

set_option maxRecDepth 100000 in
theorem theta_any (f : Nat → Nat) (w : World) (hf : W25 f) :
    Calls Try.prog 10 #[.agg (wa 25 f)] w fun e w' => e = .returned (.agg (wa 25 (th f))) ∧ Below w.heap.size w w' := by
  have HS := hid (P0.start f w)
  have HC : Hid (∀ w, Calls Try.prog 28 #[.agg (wa 25 f), .int .i64 1] w fun e w' => e = .returned (.agg (wa 25 (th f))) ∧ Below w.heap.size w w') := hid (fun w => spread_any f 1 w hf (by omega) (by omega))
  generalize th f = g at *
  clear hf
  go_enter Try.func10, Try.ntmps10
  go_wp2_with (first
    | (refine step_load_wa rfl 23 _ rfl w.heap.size 25 23 22 f rfl HS.out.src Try.underlying23 info23 ?_)
    | (go_at_call 28; (with_reducible refine (HC.out _).mono ?_); rintro e w1 ⟨rfl, hlow⟩; have HS1 := hid (HS.out.on hlow); clear hlow)
    | (refine step_store_wa rfl 23 _ _ rfl (w.heap.size + 1) 25 23 _ _ rfl rfl HS1.out.out info23 ?_))
  exact ret_wa rfl rfl Try.underlying23 info23 rfl (HS1.out.out.row g) ⟨rfl, below_setRow HS1.out.low (by omega) _⟩

/-- What comes in, what goes out, and a variable beside. -/
structure V3 (f g : Nat → Nat) (w wr : World) : Prop where
  src : Aw wr w.heap.size 25 23 f
  out : Aw wr (w.heap.size + 1) 25 23 (fun _ => 0)
  var : Aw wr (w.heap.size + 2) 25 23 g
  low : Below w.heap.size w wr
theorem V3.start (f g : Nat → Nat) (w : World) : V3 f g w (((w.alloc (.cells (wa 25 f) 23)).alloc (.cells (wa 25 (fun _ => 0)) 23)).alloc (.cells (wa 25 g) 23)) := by
  have h := P0.start f w
  refine ⟨h.src.alloc _, h.out.alloc _, ?_, h.low.alloc (by simp; omega) _⟩
  have := Aw.new ((w.alloc (.cells (wa 25 f) 23)).alloc (.cells (wa 25 (fun _ => 0)) 23)) 25 23 g
  rw [World.size_alloc, World.size_alloc] at this
  exact this
theorem V3.on {f g : Nat → Nat} {w wr w1 : World} (h : V3 f g w wr) (hb : Below wr.heap.size wr w1) : V3 f g w w1 := ⟨h.src.self hb, h.out.self hb, h.var.self hb, h.low.trans (hb.mono h.low.size)⟩
theorem V3.drew {f g : Nat → Nat} {w wr : World} (h : V3 f g w wr) : V3 f g w wr.drew := ⟨h.src.drew, h.out.drew, h.var.drew, h.low.drew⟩
theorem V3.ext {f g g' : Nat → Nat} {w wr : World} (h : V3 f g w wr) (e : ∀ i, i < 25 → g i = g' i) : V3 f g' w wr := ⟨h.src, h.out, h.var.ext e, h.low⟩
theorem V3.set {f g : Nat → Nat} {w wr : World} (h : V3 f g w wr) (j z : Nat) : V3 f (upd g j z) w (wr.setCell ⟨w.heap.size + 2, j, none⟩ (.int .u64 (z : Int))) :=
  ⟨h.src.apart (by simp) _, h.out.apart (by simp) _, h.var.set j z, h.low.setCell (by simp) _⟩
theorem V3.row {f g : Nat → Nat} {w wr : World} (h : V3 f g w wr) (k : Nat → Nat) : V3 f k w (wr.setRow (w.heap.size + 2) (wa 25 k)) :=
  ⟨h.src.rowApart (by omega) _, h.out.rowApart (by omega) _, h.var.row k, below_setRow h.low (by omega) _⟩
theorem V3.mixed {f g k : Nat → Nat} {n : Nat} {w wr : World} (h : V3 f (mix n k g) w wr) {v : Int} {z : Nat} (hv : v = (z : Int)) (hz : z = g n) : V3 f (mix (n + 1) k g) w (wr.setCell ⟨w.heap.size + 2, n, none⟩ (.int .u64 v)) := by
  subst hv
  rw [← mix_step n k g hz]
  exact h.set n z
theorem V3.mixed_at {f g k p : Nat → Nat} {n j : Nat} {w wr : World} (h : V3 f (mip p n k g) w wr) {v : Int} {z : Nat} (hp : ∀ i, i < 25 → (p i = n ↔ i = j)) (hv : v = (z : Int)) (hz : z = g j) : V3 f (mip p (n + 1) k g) w (wr.setCell ⟨w.heap.size + 2, j, none⟩ (.int .u64 v)) := by
  subst hv
  exact (h.set j z).ext (mip_step hp hz)

/-! ### move -/
set_option maxRecDepth 100000 in
set_option maxHeartbeats 1600000 in
theorem move_any (f : Nat → Nat) (w : World) (hf : W25 f) :
    Calls Try.prog 12 #[.agg (wa 25 f)] w fun e w' => e = .returned (.agg (wa 25 (mo tun f))) ∧ Below w.heap.size w w' := by
  have HS := hid (V3.start f (fun _ => 0) w)
  have HC := hid turns_any
  have HF := hid hf
  have HT := hid tun_lt
  have HG := hid (fun n h => mo_at tun f (n := n) h)
  have HD := hid (fun n h => (src_dst n h).2.1)
  have HA := hid (fun n h => src_at (n := n) h)
  generalize mo tun f = g at *
  generalize tun = t at *
  clear hf
  go_enter Try.func12, Try.ntmps12
  go_wp2_with (first
    | (go_at_call 26; (with_reducible refine (HC.out _).mono ?_); rintro e w1 ⟨rfl, hlow⟩; have HS1 := hid (HS.out.on hlow); clear hlow))
  go_loopw [7] (fun i wr => ∃ n : Nat, n ≤ 25 ∧ i = .int .i64 n ∧ V3 f (mip src n (fun _ => 0) g) w wr) (fun i _ => 25 - (intOf i).toNat)
  case atStart => exact ⟨0, by omega, rfl, by rw [mip_zero]; exact HS1.out⟩
  case round =>
    obtain ⟨n, hn, rfl, hI⟩ := hrel
    have HI := hid hI
    clear hI
    by_cases hlt : n < 25
    · have hi := fun w => idx36 t hlt w
      have ht := HT.out n hlt
      have c1 := HI.out.drew.src.cell hlt
      have hd := HD.out n hlt
      have c2 := HI.out.drew.var.cell hd
      have hfr := HI.out.drew.var.free (dst n)
      have b1 := HF.out n hlt
      have HR := hid (fun w => rot_to (m := t n) (k := (t n : Int)) b1 (by omega) w)
      have HP := hid (fun w => target_any n w hlt)
      have HGn := hid (HG.out n hlt)
      have HU := hid (fun v z hv hz => HI.out.drew.mixed_at (v := v) (z := z) (HA.out n hlt) hv hz)
      generalize rt (f n) (t n) = r at *
      generalize f n = x at *
      generalize t n = y at *
      generalize dst n = d at *
      generalize mip src n (fun _ => 0) g d = z0 at *
      have n3 : (n : Int) < 25 := by omega
      have p3 : (0 : Int) ≤ (n : Int) := by omega
      have n4 : (d : Int) < 25 := by omega
      have p4 : (0 : Int) ≤ (d : Int) := by omega
      go_wp2
      refine region_tail 8 (by kernel_rfl) (by kernel_rfl) ?_
      simp only [List.take_succ_cons, List.take_zero, List.drop_succ_cons, List.drop_zero]
      generalize wr.drew = w2 at *
      repeat still_step
      still_call (HP.out _)
      repeat still_step
      still_call (HR.out _)
      repeat still_step
      refine wpStill_nil ?_
      go_wp2
      go_roundw
      case rel => exact ⟨n + 1, by omega, by go_num, HU.out _ _ rfl HGn.out.symm⟩
      case measure => simp [intOf]; omega
    · obtain rfl : n = 25 := by omega
      have HM := hid HI.out.var
      have HN := hid HI.out.out
      go_wp2_with (first
        | (refine step_load_wa rfl 23 _ rfl (w.heap.size + 2) 25 23 22 _ rfl HM.out Try.underlying23 info23 ?_)
        | (refine step_store_wa rfl 23 _ _ rfl (w.heap.size + 1) 25 23 _ _ rfl rfl HN.out info23 ?_))
      refine ret_wa rfl rfl Try.underlying23 info23 rfl (HI.out.out.row _) ⟨?_, below_setRow HI.out.low (by omega) _⟩
      rw [wa_ext (mip_all (fun i hi => (src_dst i hi).2.2.2))]

set_option maxRecDepth 100000 in
set_option maxHeartbeats 1600000 in
theorem backmove_any (f : Nat → Nat) (w : World) (hf : W25 f) :
    Calls Try.prog 22 #[.agg (wa 25 f)] w fun e w' => e = .returned (.agg (wa 25 (bm tun f))) ∧ Below w.heap.size w w' := by
  have HS := hid (V3.start f (fun _ => 0) w)
  have HC := hid turns_any
  have HF := hid hf
  have HT := hid tun_lt
  have HG : Hid (∀ n, bm tun f n = rt (f (dst n)) ((64 - tun n) % 64)) := hid (fun _ => rfl)
  have HD := hid (fun n h => (src_dst n h).2.1)
  generalize bm tun f = g at *
  generalize tun = t at *
  clear hf
  go_enter Try.func22, Try.ntmps22
  go_wp2_with (first
    | (go_at_call 26; (with_reducible refine (HC.out _).mono ?_); rintro e w1 ⟨rfl, hlow⟩; have HS1 := hid (HS.out.on hlow); clear hlow))
  go_loopw [7] (fun i wr => ∃ n : Nat, n ≤ 25 ∧ i = .int .i64 n ∧ V3 f (mix n (fun _ => 0) g) w wr) (fun i _ => 25 - (intOf i).toNat)
  case atStart => exact ⟨0, by omega, rfl, by rw [mix_zero]; exact HS1.out⟩
  case round =>
    obtain ⟨n, hn, rfl, hI⟩ := hrel
    have HI := hid hI
    clear hI
    by_cases hlt : n < 25
    · have hi := fun w => idx36 t hlt w
      have ht := HT.out n hlt
      have hd := HD.out n hlt
      have c1 := HI.out.src.cell hd
      have c2 := HI.out.var.cell hlt
      have hfr := HI.out.var.free n
      have b1 := HF.out _ hd
      have HR : Hid (∀ w, Calls Try.prog 30 #[.int .u64 (f (dst n) : Int), .int .i64 (-(t n : Int))] w fun e w' => e = .returned (.int .u64 (rt (f (dst n)) ((64 - t n) % 64) : Nat)) ∧ w' = w) :=
        hid (fun w => rot_to (m := (64 - t n) % 64) (k := -(t n : Int)) b1 (by omega) w)
      have HP := hid (fun w => target_any n w hlt)
      have HGn := hid (HG.out n)
      have HU := hid (fun v z hv hz => HI.out.mixed (v := v) (z := z) hv hz)
      have e1 : IntKind.i64.wrap (-(t n : Int)) = -(t n : Int) := by rw [IntKind.wrap_i64]; omega
      generalize rt (f (dst n)) ((64 - t n) % 64) = r at *
      generalize dst n = d at *
      generalize f d = x at *
      generalize t n = y at *
      generalize mix n (fun _ => 0) g n = z0 at *
      go_wp2_with (first
        | (go_at_call 31; (with_reducible refine (HP.out _).mono ?_); rintro e w1 ⟨rfl, rfl⟩)
        | (go_at_call 30; (with_reducible refine (HR.out _).mono ?_); rintro e w1 ⟨rfl, rfl⟩))
      go_roundw
      case rel => exact ⟨n + 1, by omega, by go_num, HU.out _ _ rfl HGn.out.symm⟩
      case measure => simp [intOf]; omega
    · obtain rfl : n = 25 := by omega
      have HM := hid HI.out.var
      have HN := hid HI.out.out
      go_wp2_with (first
        | (refine step_load_wa rfl 23 _ rfl (w.heap.size + 2) 25 23 22 _ rfl HM.out Try.underlying23 info23 ?_)
        | (refine step_store_wa rfl 23 _ _ rfl (w.heap.size + 1) 25 23 _ _ rfl rfl HN.out info23 ?_))
      refine ret_wa rfl rfl Try.underlying23 info23 rfl (HI.out.out.row _) ⟨?_, below_setRow HI.out.low (by omega) _⟩
      rw [wa_ext (mix_all (Nat.le_refl 25))]
end Go.Proofs.Ytfgbcohmbbjagaa
