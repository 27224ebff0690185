import Derived.Test.YtfgbcohmbbjagaaKch
import Derived.Test.YtfgbcohmbbjagaaKcd
namespace Go.Proofs.Ytfgbcohmbbjagaa
open Go.RowKit

theorem P0.ext {f g : Nat → Nat} {w wr : World} (h : P0 f w wr) (e : ∀ i, i < 25 → f i = g i) : P0 g w wr := ⟨h.src.ext e, h.out, h.low⟩
theorem P0.drew {f : Nat → Nat} {w wr : World} (h : P0 f w wr) : P0 f w wr.drew := ⟨h.src.drew, h.out.drew, h.low.drew⟩
theorem P0.row {f : Nat → Nat} {w wr : World} (h : P0 f w wr) (g : Nat → Nat) : P0 g w (wr.setRow w.heap.size (wa 25 g)) := ⟨h.src.row g, h.out.rowApart (by omega) _, below_setRow h.low (by omega) _⟩
theorem io_upd (m : Nat) (f : Nat → Nat) {z : Nat} (h : z = f 0 ^^^ m) : upd f 0 z = io m f := funext fun i => by
  subst h; unfold upd io; rfl
theorem P0.mark {f : Nat → Nat} {w wr : World} (h : P0 f w wr) (m : Nat) {v : Int} (hv : v = ((f 0 ^^^ m : Nat) : Int)) : P0 (io m f) w (wr.setCell ⟨w.heap.size, 0, none⟩ (.int .u64 v)) := by
  subst hv
  rw [← io_upd m f rfl]
  exact ⟨h.src.set 0 _, h.out.apart (by simp) _, h.low.setCell (by simp) _⟩

set_option maxRecDepth 100000 in
theorem backchi_any (f : Nat → Nat) (w : World) (hf : W25 f) :
    Calls Try.prog 21 #[.agg (wa 25 f)] w fun e w' => e = .returned (.agg (wa 25 (ch (ch (ch f))))) ∧ Below w.heap.size w w' := by
  have HS := hid (P0.start f w)
  have H1 := hid (fun w => chi_any f w hf)
  have H2 := hid (fun w => chi_any (ch f) w (ch_w hf))
  have H3 := hid (fun w => chi_any (ch (ch f)) w (ch_w (ch_w hf)))
  generalize ch (ch (ch f)) = g3 at *
  generalize ch (ch f) = g2 at *
  generalize ch f = g1 at *
  clear hf
  go_enter Try.func21, Try.ntmps21
  go_wp2_with (first
    | (refine step_load_wa rfl 23 _ rfl w.heap.size 25 23 22 f rfl HS.out.src Try.underlying23 info23 ?_)
    | (go_at_call 14; (with_reducible refine (H1.out _).mono ?_); rintro e w1 ⟨rfl, hlow⟩; have HS1 := hid (HS.out.on hlow); clear hlow)
    | (go_at_call 14; (with_reducible refine (H2.out _).mono ?_); rintro e w2 ⟨rfl, hlow⟩; have HS2 := hid (HS1.out.on hlow); clear hlow)
    | (go_at_call 14; (with_reducible refine (H3.out _).mono ?_); rintro e w3 ⟨rfl, hlow⟩; have HS3 := hid (HS2.out.on hlow); clear hlow)
    | (refine step_store_wa rfl 23 _ _ rfl (w.heap.size + 1) 25 23 _ _ rfl rfl HS3.out.out info23 ?_))
  exact ret_wa rfl rfl Try.underlying23 info23 rfl (HS3.out.out.row g3) ⟨rfl, below_setRow HS3.out.low (by omega) _⟩

theorem tms_lit : (#[.int .i64 1, .int .i64 2, .int .i64 4, .int .i64 8, .int .i64 16, .int .i64 32, .int .i64 128] : Array Value) = ia 7 tms := by kernel_rfl
set_option maxRecDepth 100000 in
set_option maxHeartbeats 800000 in
theorem backtheta_any (f : Nat → Nat) (w : World) (hf : W25 f) :
    Calls Try.prog 32 #[.agg (wa 25 f)] w fun e w' => e = .returned (.agg (wa 25 (thN 191 f))) ∧ Below w.heap.size w w' := by
  have HS := hid (P0.start f w)
  have HT := hid (fun j h => tms_facts j h)
  have HC := hid (fun (g : Nat → Nat) (k : Nat) (w : World) (h1 : W25 g) (h2 : 1 ≤ k) (h3 : k ≤ 128) => spread_any g k w h1 h2 h3)
  have HW := hid (fun n => thN_w hf n)
  have HE := hid (fun j h => tms_step hf (j := j) h)
  have HZ : Hid (thN (tmS 0) f = f) := hid rfl
  have HY : Hid (thN (tmS 7) f = thN 191 f) := hid rfl
  generalize thN 191 f = g at *
  clear hf
  go_enter Try.func32, Try.ntmps32
  go_wp2
  go_loopw [6] (fun i wr => ∃ j : Nat, j ≤ 7 ∧ i = .int .i64 j ∧ P0 (thN (tmS j) f) w wr) (fun i _ => 7 - (intOf i).toNat)
  case atStart => exact ⟨0, by omega, rfl, by rw [HZ.out]; exact HS.out⟩
  case round =>
    obtain ⟨j, hj, rfl, hI⟩ := hrel
    have HI := hid hI
    clear hI
    by_cases hlt : j < 7
    · have hi : ∀ w, (Instr.index 45 (.agg #[.int .i64 1, .int .i64 2, .int .i64 4, .int .i64 8, .int .i64 16, .int .i64 32, .int .i64 128]) (.int .i64 (j : Int))).run Try.prog w = .ok (.int .i64 (tms j : Int)) w := fun w => by
        rw [tms_lit]; exact run_index_ia w 45 3 7 tms j Try.underlying45 Try.underlying3 info3 hlt
      have h3 := (HT.out j hlt).2.2.1
      have h4 := (HT.out j hlt).2.2.2
      have HCj := hid (fun w => HC.out (thN (tmS j) f) (tms j) w (HW.out _) h3 h4)
      have HEj := hid (HE.out j hlt)
      generalize ly (thN (tmS j) f) (ek (tms j) (co (thN (tmS j) f))) = g1 at *
      generalize thN (tmS j) f = g0 at *
      generalize tms j = k at *
      go_wp2_with (first
        | (refine step_load_wa rfl 23 _ rfl w.heap.size 25 23 22 g0 rfl HI.out.src Try.underlying23 info23 ?_)
        | (go_at_call 28; (with_reducible refine (HCj.out _).mono ?_); rintro e w1 ⟨rfl, hlow⟩; have HS1 := hid (HI.out.on hlow); clear hlow)
        | (refine step_store_wa rfl 23 _ _ rfl w.heap.size 25 23 _ _ rfl rfl HS1.out.src info23 ?_))
      go_roundw
      case rel => exact ⟨j + 1, by omega, by go_num, (HS1.out.row g1).ext HEj.out⟩
      case measure => simp [intOf]; omega
    · obtain rfl : j = 7 := by omega
      have HM := hid HI.out.src
      have HN := hid HI.out.out
      go_wp2_with (first
        | (refine step_load_wa rfl 23 _ rfl w.heap.size 25 23 22 _ rfl HM.out Try.underlying23 info23 ?_)
        | (refine step_store_wa rfl 23 _ _ rfl (w.heap.size + 1) 25 23 _ _ rfl rfl HN.out info23 ?_))
      refine ret_wa rfl rfl Try.underlying23 info23 rfl (HI.out.out.row _) ⟨?_, below_setRow HI.out.low (by omega) _⟩
      rw [HY.out]

/-! ### rounds -/
set_option maxRecDepth 100000 in
set_option maxHeartbeats 1600000 in
theorem permute_any (f : Nat → Nat) (w : World) (hf : W25 f) :
    Calls Try.prog 16 #[.agg (wa 25 f)] w fun e w' => e = .returned (.agg (wa 25 (pm tun mkf 24 f))) ∧ Below w.heap.size w w' := by
  have HS := hid (P0.start f w)
  have HM := hid marks_any
  have HC1 := hid (fun (g : Nat → Nat) (h : W25 g) w => theta_any g w h)
  have HC2 := hid (fun (g : Nat → Nat) (h : W25 g) w => move_any g w h)
  have HC3 := hid (fun (g : Nat → Nat) (h : W25 g) w => chi_any g w h)
  have HL := hid mkf_lt
  have HW := hid (fun n h => pm_w (t := tun) mkf_lt hf n h)
  have HZ : Hid (pm tun mkf 0 f = f) := hid rfl
  have HN : Hid (∀ n, pm tun mkf (n + 1) f = io (mkf n) (ch (mo tun (th (pm tun mkf n f))))) := hid (fun _ => rfl)
  clear hf
  go_enter Try.func16, Try.ntmps16
  go_wp2_with (first
    | (go_at_call 23; (with_reducible refine (HM.out _).mono ?_); rintro e w1 ⟨rfl, hlow⟩; have HS1 := hid (HS.out.on hlow); clear hlow))
  go_loopw [6] (fun i wr => ∃ j : Nat, j ≤ 24 ∧ i = .int .i64 j ∧ P0 (pm tun mkf j f) w wr) (fun i _ => 24 - (intOf i).toNat)
  case atStart => exact ⟨0, by omega, rfl, by rw [HZ.out]; exact HS1.out⟩
  case round =>
    obtain ⟨j, hj, rfl, hI⟩ := hrel
    have HI := hid hI
    clear hI
    by_cases hlt : j < 24
    · have hi := fun w => idx32 mkf hlt w
      have hm := HL.out j hlt
      have h0 := HW.out j (by omega)
      have h1 := th_w h0
      have h2 := mo_w (t := tun) h1
      have h3 := ch_w h2
      have K1 := hid (HC1.out _ h0)
      have K2 := hid (HC2.out _ h1)
      have K3 := hid (HC3.out _ h2)
      have HNj := hid (HN.out j)
      generalize ch (mo tun (th (pm tun mkf j f))) = g3 at *
      generalize mo tun (th (pm tun mkf j f)) = g2 at *
      generalize th (pm tun mkf j f) = g1 at *
      generalize pm tun mkf j f = g0 at *
      generalize mkf j = m at *
      have HX := hid (x64 (h3 0 (by omega)) hm)
      clear h0 h1 h2 h3
      go_wp2_with (first
        | (refine step_load_wa rfl 23 _ rfl w.heap.size 25 23 22 g0 rfl HI.out.src Try.underlying23 info23 ?_)
        | (go_at_call 10; (with_reducible refine (K1.out _).mono ?_); rintro e w1 ⟨rfl, hlow⟩; have HS1 := hid (HI.out.on hlow); clear hlow)
        | (go_at_call 12; (with_reducible refine (K2.out _).mono ?_); rintro e w2 ⟨rfl, hlow⟩; have HS2 := hid (HS1.out.on hlow); clear hlow)
        | (go_at_call 14; (with_reducible refine (K3.out _).mono ?_); rintro e w3 ⟨rfl, hlow⟩; have HS3 := hid (HS2.out.on hlow); have HS4 := hid (HS3.out.row g3); have c0 := HS4.out.src.cell (j := 0) (by omega); have f0 := HS4.out.src.free 0; clear hlow)
        | (refine step_store_wa rfl 23 _ _ rfl w.heap.size 25 23 _ _ rfl rfl HS3.out.src info23 ?_))
      go_roundw
      case rel => exact ⟨j + 1, by omega, by go_num, by rw [HNj.out]; exact HS4.out.mark m HX.out⟩
      case measure => simp [intOf]; omega
    · obtain rfl : j = 24 := by omega
      have HM := hid HI.out.src
      have HN := hid HI.out.out
      go_wp2_with (first
        | (refine step_load_wa rfl 23 _ rfl w.heap.size 25 23 22 _ rfl HM.out Try.underlying23 info23 ?_)
        | (refine step_store_wa rfl 23 _ _ rfl (w.heap.size + 1) 25 23 _ _ rfl rfl HN.out info23 ?_))
      exact ret_wa rfl rfl Try.underlying23 info23 rfl (HI.out.out.row _) ⟨rfl, below_setRow HI.out.low (by omega) _⟩

/-- .. and a row of marks beside. -/
structure P4 (f : Nat → Nat) (b : Nat) (w wr : World) : Prop extends P0 f w wr where
  mks : Aw wr b 24 32 mkf
  far : w.heap.size + 2 ≤ b
theorem P4.start {f : Nat → Nat} {w w1 : World} (h : P0 f w w1) : P4 f w1.heap.size w ((w1.alloc (.cells (wa 24 (fun _ => 0)) 32)).setRow w1.heap.size (wa 24 mkf)) := by
  have hl := h.out.lt
  exact ⟨⟨(h.src.alloc _).rowApart (by omega) _, (h.out.alloc _).rowApart (by omega) _, below_setRow (h.low.alloc h.low.size _) h.low.size _⟩, (Aw.new w1 24 32 (fun _ => 0)).row mkf, by omega⟩
theorem P4.on {f : Nat → Nat} {b : Nat} {w wr w1 : World} (h : P4 f b w wr) (hb : Below wr.heap.size wr w1) : P4 f b w w1 := ⟨h.toP0.on hb, h.mks.self hb, h.far⟩
theorem P4.drew {f : Nat → Nat} {b : Nat} {w wr : World} (h : P4 f b w wr) : P4 f b w wr.drew := ⟨h.toP0.drew, h.mks.drew, h.far⟩
theorem P4.row {f : Nat → Nat} {b : Nat} {w wr : World} (h : P4 f b w wr) (g : Nat → Nat) : P4 g b w (wr.setRow w.heap.size (wa 25 g)) := ⟨h.toP0.row g, h.mks.rowApart (by have := h.far; omega) _, h.far⟩
theorem P4.mark {f : Nat → Nat} {b : Nat} {w wr : World} (h : P4 f b w wr) (m : Nat) {v : Int} (hv : v = ((f 0 ^^^ m : Nat) : Int)) : P4 (io m f) b w (wr.setCell ⟨w.heap.size, 0, none⟩ (.int .u64 v)) :=
  ⟨h.toP0.mark m hv, h.mks.apart (by have := h.far; simp; omega) _, h.far⟩

set_option maxRecDepth 100000 in
set_option maxHeartbeats 1600000 in
theorem back_any (f : Nat → Nat) (w : World) (hf : W25 f) :
    Calls Try.prog 20 #[.agg (wa 25 f)] w fun e w' => e = .returned (.agg (wa 25 (bkN tun mkf 24 f))) ∧ Below w.heap.size w w' := by
  have HS := hid (P0.start f w)
  have HM := hid marks_any
  have HC1 := hid (fun (g : Nat → Nat) (h : W25 g) w => backchi_any g w h)
  have HC2 := hid (fun (g : Nat → Nat) (h : W25 g) w => backmove_any g w h)
  have HC3 := hid (fun (g : Nat → Nat) (h : W25 g) w => backtheta_any g w h)
  have HL := hid mkf_lt
  have HF := hid hf
  have HN : Hid (∀ n g, bkN tun mkf (n + 1) g = bkN tun mkf n (thN 191 (bm tun (ch (ch (ch (io (mkf n) g))))))) := hid (fun _ _ => rfl)
  have HZ : Hid (∀ g, bkN tun mkf 0 g = g) := hid (fun _ => rfl)
  clear hf
  generalize hF : bkN tun mkf 24 f = F
  have HFF := hid hF
  clear hF
  go_enter Try.func20, Try.ntmps20
  go_wp2_with (first
    | (go_at_call 23; (with_reducible refine (HM.out _).mono ?_); rintro e w1 ⟨rfl, hlow⟩; have HS1 := hid (HS.out.on hlow); have HS2 := hid (P4.start HS1.out); clear hlow)
    | (refine step_store_wa rfl 32 _ _ rfl w1.heap.size 24 32 (fun _ => 0) _ rfl rfl (Aw.new w1 24 32 (fun _ => 0)) info32 ?_))
  go_loopw [4] (fun i wr => ∃ (n : Nat) (g : Nat → Nat), n ≤ 24 ∧ i = .int .i64 ((n : Int) - 1) ∧ Hid (W25 g) ∧ Hid (bkN tun mkf n g = F) ∧ P4 g w1.heap.size w wr) (fun i _ => (intOf i + 1).toNat)
  case atStart => exact ⟨24, f, by omega, rfl, HF, HFF, HS2.out⟩
  case round =>
    obtain ⟨n, g, hn, rfl, HG, HE, hI⟩ := hrel
    have HI := hid hI
    clear hI
    cases n with
    | succ n =>
      have hlt : n < 24 := by omega
      have hm := HL.out n hlt
      have h0 := HG.out
      have HX := hid (x64 (h0 0 (by omega)) hm)
      have h1 := io_w hm h0
      have h2 := ch_w (ch_w (ch_w h1))
      have h3 := bm_w (t := tun) h2
      have h4 := hid (thN_w h3 191)
      have K1 := hid (HC1.out _ h1)
      have K2 := hid (HC2.out _ h2)
      have K3 := hid (HC3.out _ h3)
      have HE2 := hid ((HN.out n g).symm.trans HE.out)
      have c1 := HI.out.mks.cell hlt
      have c0 := HI.out.src.cell (j := 0) (by omega)
      have f0 := HI.out.src.free 0
      have HU := hid (fun v (hv : v = ((g 0 ^^^ mkf n : Nat) : Int)) => (HI.out.mark (mkf n) hv).drew)
      generalize thN 191 (bm tun (ch (ch (ch (io (mkf n) g))))) = g4 at *
      generalize bm tun (ch (ch (ch (io (mkf n) g)))) = g3 at *
      generalize ch (ch (ch (io (mkf n) g))) = g2 at *
      generalize io (mkf n) g = g1 at *
      generalize mkf n = m at *
      generalize g 0 = z at *
      clear h0 h1 h2 h3 hm
      go_wp2
      go_region
      have HI1 := hid (HU.out _ HX.out)
      generalize (wr.setCell ⟨w.heap.size, 0, none⟩ (.int .u64 (bits .xor .u64 (z : Int) (m : Int)))).drew = w2 at *
      go_wp2_with (first
        | (refine step_load_wa rfl 23 _ rfl w.heap.size 25 23 22 g1 rfl HI1.out.src Try.underlying23 info23 ?_)
        | (go_at_call 21; (with_reducible refine (K1.out _).mono ?_); rintro e w3 ⟨rfl, hlow⟩; have HS1 := hid (HI1.out.on hlow); clear hlow)
        | (go_at_call 22; (with_reducible refine (K2.out _).mono ?_); rintro e w4 ⟨rfl, hlow⟩; have HS2 := hid (HS1.out.on hlow); clear hlow)
        | (go_at_call 32; (with_reducible refine (K3.out _).mono ?_); rintro e w5 ⟨rfl, hlow⟩; have HS3 := hid (HS2.out.on hlow); have HS4 := hid (HS3.out.row g4); clear hlow)
        | (refine step_store_wa rfl 23 _ _ rfl w.heap.size 25 23 _ _ rfl rfl HS3.out.src info23 ?_))
      go_roundw
      case rel => exact ⟨n, g4, by omega, by go_num, h4, HE2, HS4.out⟩
      case measure => simp [intOf] <;> omega
    | zero =>
      have HM := hid HI.out.src
      have HN := hid HI.out.out
      have HQ := hid ((HZ.out g).symm.trans HE.out)
      go_wp2_with (first
        | (refine step_load_wa rfl 23 _ rfl w.heap.size 25 23 22 _ rfl HM.out Try.underlying23 info23 ?_)
        | (refine step_store_wa rfl 23 _ _ rfl (w.heap.size + 1) 25 23 _ _ rfl rfl HN.out info23 ?_))
      refine ret_wa rfl rfl Try.underlying23 info23 rfl (HI.out.out.row _) ⟨?_, below_setRow HI.out.low (by omega) _⟩
      rw [HQ.out]
end Go.Proofs.Ytfgbcohmbbjagaa
