import Derived.Test.YtnklljlgghenpaaProg
import Derived.Test.YtnklljlgghenpaaKyi
namespace Go.Proofs.Ytnklljlgghenpaa
open Go.RowKit

set_option maxRecDepth 100000 in
set_option maxHeartbeats 3200000 in
theorem word_sub (c cap i n p : Nat) (F : Nat → Nat → Nat) (w : World) (hn : n + 8 = i) (hp : p + 1 = i) (hi : i ≤ 1000) (hA : RA w c i F) (hr : i % 8 = 4) :
    Calls Try.prog 17 #[.slice (some ⟨c, 0, none⟩) i cap, .int .i64 (i : Int), .int .i64 8] w fun e w' => e = .returned (.agg (ba 4 (fun j => F n j ^^^ mkw 8 i (F p) j))) ∧ Below w.heap.size w w' := by
  have HA := hid hA
  have e2 : (i : Int) - 1 = (p : Int) := by omega
  have e3 : (i : Int) - 8 = (n : Int) := by omega
  have wp : IntKind.i64.wrap (p : Int) = p := by rw [IntKind.wrap_i64]; omega
  have wn : IntKind.i64.wrap (n : Int) = n := by rw [IntKind.wrap_i64]; omega
  have b1 : (0 : Int) ≤ (n : Int) := by omega
  have b2 : (n : Int) < (i : Int) := by omega
  have b3 : (0 : Int) ≤ (p : Int) := by omega
  have b4 : (p : Int) < (i : Int) := by omega
  have HR : Hid ((w.alloc (.cells #[.int .u8 0, .int .u8 0, .int .u8 0, .int .u8 0] 38)).rangeAt c (p * 4) (ba 4 (F p)).toList) := hid (World.rangeAt_alloc (hA.range (i := p) (by omega)) _)
  have HX : Hid (X0 w (((w.alloc (.cells #[.int .u8 0, .int .u8 0, .int .u8 0, .int .u8 0] 38)).alloc (.cells #[.int .u8 0, .int .u8 0, .int .u8 0, .int .u8 0] 38)).setRow (w.heap.size + 1) (ba 4 (F p))) (F p)) := hid (X0.start w (F p))
  have HL2 : Hid (At ((w.alloc (.cells #[.int .u8 0, .int .u8 0, .int .u8 0, .int .u8 0] 38)).alloc (.cells #[.int .u8 0, .int .u8 0, .int .u8 0, .int .u8 0] 38)) (w.heap.size + 1) 4 38 (fun _ => 0)) := hid (by have := At.new (w.alloc (.cells (ba 4 (fun _ => 0)) 38)) 4 38 (fun _ => 0); rw [World.size_alloc] at this; exact this)
  have HBy := hid (hA.byte p (by omega))
  have HBn := hid (hA.byte n (by omega))
  have HAn : Hid (∀ w', Below w.heap.size w w' → ∀ j, j < 4 → w'.cell? ⟨c, n * 4 + j, none⟩ = some (.int .u8 (F n j : Int))) := hid (fun w' hb => (hA.self hb).cell n (by omega))
  have hmod : ((i : Int) % 8 == 0) = false := by rw [beq_eq_false_iff_ne]; omega
  have hmod4 : ((i : Int) % 8 == 4) = true := by rw [beq_iff_eq]; omega
  have HE := hid (show mkw 8 i (F p) = fun j => sb (F p j) by funext j; unfold mkw; rw [if_neg (by omega), if_pos ⟨rfl, hr⟩])
  generalize F p = f at *
  generalize F n = h at *
  clear hA hn hp hr
  go_enter Try.func17, Try.ntmps17
  go_wp2_with (first
    | (refine step_load_mid_ba rfl 38 (.tmp 12) rfl c (p * 4) 4 f 5 rfl HR.out Try.underlying38 infoq ?_)
    | (refine step_store_ba rfl 38 (.tmp 7) (.tmp 13) rfl (w.heap.size + 1) 4 38 (fun _ => 0) f rfl rfl HL2.out infoq ?_; generalize (((w.alloc (.cells #[.int .u8 0, .int .u8 0, .int .u8 0, .int .u8 0] 38)).alloc (.cells #[.int .u8 0, .int .u8 0, .int .u8 0, .int .u8 0] 38)).setRow (w.heap.size + 1) (ba 4 f)) = w1 at *))
  have hc1 : w1.drew.cell? ⟨w.heap.size + 1, 1, none⟩ = some (.int .u8 (f 1 : Int)) := HX.out.var.drew.cell (show 1 < 4 by decide)
  have hc2 : w1.drew.cell? ⟨w.heap.size + 1, 2, none⟩ = some (.int .u8 (f 2 : Int)) := HX.out.var.drew.cell (show 2 < 4 by decide)
  have hc3 : w1.drew.cell? ⟨w.heap.size + 1, 3, none⟩ = some (.int .u8 (f 3 : Int)) := HX.out.var.drew.cell (show 3 < 4 by decide)
  have hc0 : w1.drew.cell? ⟨w.heap.size + 1, 0, none⟩ = some (.int .u8 (f 0 : Int)) := HX.out.var.drew.cell (show 0 < 4 by decide)
  have S0 := hid (fun w => refsub_any (f 0) w (HBy.out 0 (by decide)))
  have S1 := hid (fun w => refsub_any (f 1) w (HBy.out 1 (by decide)))
  have S2 := hid (fun w => refsub_any (f 2) w (HBy.out 2 (by decide)))
  have S3 := hid (fun w => refsub_any (f 3) w (HBy.out 3 (by decide)))
  obtain ⟨g, hg⟩ : ∃ g, g = quad (sb (f 0)) (sb (f 1)) (sb (f 2)) (sb (f 3)) := ⟨_, rfl⟩
  have HGm : Hid (∀ j, j < 4 → g j = mkw 8 i f j) := hid (by
    intro j hj
    rw [hg, HE.out]
    obtain rfl | rfl | rfl | rfl : j = 0 ∨ j = 1 ∨ j = 2 ∨ j = 3 := by omega
    all_goals rfl)
  have HGl : Hid (∀ j, j < 4 → g j < 256) := hid (by
    intro j hj
    rw [HGm.out j hj, HE.out]
    exact sb_lt _)
  have HEQ : Hid (∀ x, x < 4 → (fun x => h x ^^^ g x) x = (fun j => h j ^^^ mkw 8 i f j) x) := hid (fun x hx => by show h x ^^^ g x = h x ^^^ mkw 8 i f x; rw [HGm.out x hx])
  have HV1 := hid HX.out.var.drew
  have HG : Hid (X0 w (w1.drew.setRow (w.heap.size + 1) (ba 4 g)) g) := hid ((⟨HX.out.out.drew, HX.out.var.drew, HX.out.low.drew⟩ : X0 w w1.drew f).row g)
  have Hg := hid hg
  generalize sb (f 0) = x0 at *
  generalize sb (f 1) = x1 at *
  generalize sb (f 2) = x2 at *
  generalize sb (f 3) = x3 at *
  clear hg HE HGm
  refine region_tail 12 (by kernel_rfl) (by kernel_rfl) ?_
  simp only [List.take_succ_cons, List.take_zero, List.drop_succ_cons, List.drop_zero]
  generalize w1.drew = w2 at *
  repeat still_step
  still_call (S0.out _)
  repeat still_step
  still_call (S1.out _)
  repeat still_step
  still_call (S2.out _)
  repeat still_step
  still_call (S3.out _)
  repeat still_step
  refine wpStill_nil ?_
  go_wp2_with (first
    | (refine step_build4 rfl (.tmp 45) (.tmp 48) (.tmp 51) (.tmp 54) rfl x0 x1 x2 x3 rfl rfl rfl rfl ?_; rw [← Hg.out])
    | (refine step_store_ba rfl 38 (.tmp 7) (.tmp 55) rfl (w.heap.size + 1) 4 38 f g rfl rfl HV1.out infoq ?_; generalize w2.setRow (w.heap.size + 1) (ba 4 g) = w3 at *))
  clear hc0 hc1 hc2 hc3
  go_loopw [8] (fun i wr => ∃ j : Nat, j ≤ 4 ∧ i = .int .i64 j ∧ XInv w wr g h j) (fun i _ => 4 - (intOf i).toNat)
  case atStart => exact ⟨0, by omega, rfl, HG.out.inv h⟩
  case round =>
    obtain ⟨j, hj, rfl, hI⟩ := hrel
    have HI := hid hI
    clear hI
    by_cases hlt : j < 4
    · have hc1 : wr.drew.cell? ⟨w.heap.size + 1, j, none⟩ = some (.int .u8 (g j : Int)) := by have := HI.out.drew.var.cell hlt; simpa using this
      have hf1 := HI.out.drew.var.free j
      have hc2 := HAn.out _ HI.out.drew.low j hlt
      have HT := hid (HI.out.drew.step)
      have hgl := HGl.out j hlt
      have hhl := HBn.out j hlt
      have HXR : Hid (bits .xor .u8 (g j : Int) (h j : Int) = ((h j ^^^ g j : Nat) : Int)) := hid (by rw [xor8 hgl hhl, Nat.xor_comm])
      have j0 : (0 : Int) ≤ (j : Int) := by omega
      have j4 : (j : Int) < 4 := by omega
      generalize h j ^^^ g j = z at HXR HT
      generalize g j = gj at *
      generalize h j = hj' at *
      clear hgl hhl
      go_wp2
      go_region
      go_wp2
      go_roundw
      case rel => exact ⟨j + 1, by omega, by go_num, by rw [HXR.out]; exact HT.out⟩
      case measure => simp [intOf]; omega
    · obtain rfl : j = 4 := by omega
      have HV : Hid (At wr (w.heap.size + 1) 4 38 (fun x => h x ^^^ g x)) := hid (HI.out.var.ext (fun x hx => if_pos hx))
      have HN := hid HI.out.out
      have HLo := hid HI.out.low
      go_wp2_with (first
        | (refine step_load_ba rfl 38 _ rfl (w.heap.size + 1) 4 38 5 _ rfl HV.out Try.underlying38 infoq ?_)
        | (refine step_store_ba rfl 38 _ _ rfl w.heap.size 4 38 _ _ rfl rfl HN.out infoq ?_))
      refine ret_ba rfl rfl Try.underlying38 infoq rfl (HN.out.row (fun x => h x ^^^ g x)) ⟨?_, below_setRow HLo.out (Nat.le_refl _) _⟩
      rw [ba_ext HEQ.out]

set_option maxRecDepth 100000 in
set_option maxHeartbeats 3200000 in
theorem word_plain (c cap i K n p : Nat) (F : Nat → Nat → Nat) (w : World) (hn : n + K = i) (hp : p + 1 = i) (hK : 0 < K) (hi : i ≤ 1000) (hA : RA w c i F) (hr : i % K ≠ 0) (hk : K ≠ 8) :
    Calls Try.prog 17 #[.slice (some ⟨c, 0, none⟩) i cap, .int .i64 (i : Int), .int .i64 (K : Int)] w fun e w' => e = .returned (.agg (ba 4 (fun j => F n j ^^^ mkw K i (F p) j))) ∧ Below w.heap.size w w' := by
  have HA := hid hA
  have e2 : (i : Int) - 1 = (p : Int) := by omega
  have e3 : (i : Int) - (K : Int) = (n : Int) := by omega
  have wp : IntKind.i64.wrap (p : Int) = p := by rw [IntKind.wrap_i64]; omega
  have wn : IntKind.i64.wrap (n : Int) = n := by rw [IntKind.wrap_i64]; omega
  have b1 : (0 : Int) ≤ (n : Int) := by omega
  have b2 : (n : Int) < (i : Int) := by omega
  have b3 : (0 : Int) ≤ (p : Int) := by omega
  have b4 : (p : Int) < (i : Int) := by omega
  have h0 : ¬ (K : Int) = 0 := by omega
  have h00 : ¬ K = 0 := by omega
  have HR : Hid ((w.alloc (.cells #[.int .u8 0, .int .u8 0, .int .u8 0, .int .u8 0] 38)).rangeAt c (p * 4) (ba 4 (F p)).toList) := hid (World.rangeAt_alloc (hA.range (i := p) (by omega)) _)
  have HX : Hid (X0 w (((w.alloc (.cells #[.int .u8 0, .int .u8 0, .int .u8 0, .int .u8 0] 38)).alloc (.cells #[.int .u8 0, .int .u8 0, .int .u8 0, .int .u8 0] 38)).setRow (w.heap.size + 1) (ba 4 (F p))) (F p)) := hid (X0.start w (F p))
  have HL2 : Hid (At ((w.alloc (.cells #[.int .u8 0, .int .u8 0, .int .u8 0, .int .u8 0] 38)).alloc (.cells #[.int .u8 0, .int .u8 0, .int .u8 0, .int .u8 0] 38)) (w.heap.size + 1) 4 38 (fun _ => 0)) := hid (by have := At.new (w.alloc (.cells (ba 4 (fun _ => 0)) 38)) 4 38 (fun _ => 0); rw [World.size_alloc] at this; exact this)
  have HBy := hid (hA.byte p (by omega))
  have HBn := hid (hA.byte n (by omega))
  have HAn : Hid (∀ w', Below w.heap.size w w' → ∀ j, j < 4 → w'.cell? ⟨c, n * 4 + j, none⟩ = some (.int .u8 (F n j : Int))) := hid (fun w' hb => (hA.self hb).cell n (by omega))
  have hmod : ((i : Int) % (K : Int) == 0) = false := by rw [beq_eq_false_iff_ne]; omega
  have hk8 : ((K : Int) == 8) = false := by rw [beq_eq_false_iff_ne]; omega
  have HE := hid (show mkw K i (F p) = F p by funext j; unfold mkw; rw [if_neg hr, if_neg (fun h => hk h.1)])
  generalize F p = g at *
  generalize F n = h at *
  clear hA hn hp hr
  go_enter Try.func17, Try.ntmps17
  go_wp2_with (first
    | (refine step_load_mid_ba rfl 38 (.tmp 12) rfl c (p * 4) 4 g 5 rfl HR.out Try.underlying38 infoq ?_)
    | (refine step_store_ba rfl 38 (.tmp 7) (.tmp 13) rfl (w.heap.size + 1) 4 38 (fun _ => 0) g rfl rfl HL2.out infoq ?_; generalize (((w.alloc (.cells #[.int .u8 0, .int .u8 0, .int .u8 0, .int .u8 0] 38)).alloc (.cells #[.int .u8 0, .int .u8 0, .int .u8 0, .int .u8 0] 38)).setRow (w.heap.size + 1) (ba 4 g)) = w1 at *))
  have HG := HX
  have HGl := HBy
  have HEQ : Hid (∀ x, x < 4 → (fun x => h x ^^^ g x) x = (fun j => h j ^^^ mkw K i g j) x) := hid (fun x hx => by show h x ^^^ g x = h x ^^^ mkw K i g x; rw [HE.out])
  clear HE
  go_loopw [8] (fun i wr => ∃ j : Nat, j ≤ 4 ∧ i = .int .i64 j ∧ XInv w wr g h j) (fun i _ => 4 - (intOf i).toNat)
  case atStart => exact ⟨0, by omega, rfl, HG.out.inv h⟩
  case round =>
    obtain ⟨j, hj, rfl, hI⟩ := hrel
    have HI := hid hI
    clear hI
    by_cases hlt : j < 4
    · have hc1 : wr.drew.cell? ⟨w.heap.size + 1, j, none⟩ = some (.int .u8 (g j : Int)) := by have := HI.out.drew.var.cell hlt; simpa using this
      have hf1 := HI.out.drew.var.free j
      have hc2 := HAn.out _ HI.out.drew.low j hlt
      have HT := hid (HI.out.drew.step)
      have hgl := HGl.out j hlt
      have hhl := HBn.out j hlt
      have HXR : Hid (bits .xor .u8 (g j : Int) (h j : Int) = ((h j ^^^ g j : Nat) : Int)) := hid (by rw [xor8 hgl hhl, Nat.xor_comm])
      have j0 : (0 : Int) ≤ (j : Int) := by omega
      have j4 : (j : Int) < 4 := by omega
      generalize h j ^^^ g j = z at HXR HT
      generalize g j = gj at *
      generalize h j = hj' at *
      clear hgl hhl
      go_wp2
      go_region
      go_wp2
      go_roundw
      case rel => exact ⟨j + 1, by omega, by go_num, by rw [HXR.out]; exact HT.out⟩
      case measure => simp [intOf]; omega
    · obtain rfl : j = 4 := by omega
      have HV : Hid (At wr (w.heap.size + 1) 4 38 (fun x => h x ^^^ g x)) := hid (HI.out.var.ext (fun x hx => if_pos hx))
      have HN := hid HI.out.out
      have HLo := hid HI.out.low
      go_wp2_with (first
        | (refine step_load_ba rfl 38 _ rfl (w.heap.size + 1) 4 38 5 _ rfl HV.out Try.underlying38 infoq ?_)
        | (refine step_store_ba rfl 38 _ _ rfl w.heap.size 4 38 _ _ rfl rfl HN.out infoq ?_))
      refine ret_ba rfl rfl Try.underlying38 infoq rfl (HN.out.row (fun x => h x ^^^ g x)) ⟨?_, below_setRow HLo.out (Nat.le_refl _) _⟩
      rw [ba_ext HEQ.out]

set_option maxRecDepth 100000 in
set_option maxHeartbeats 3200000 in
theorem word_plain8 (c cap i n p : Nat) (F : Nat → Nat → Nat) (w : World) (hn : n + 8 = i) (hp : p + 1 = i) (hi : i ≤ 1000) (hA : RA w c i F) (hr : i % 8 ≠ 0) (h8 : i % 8 ≠ 4) :
    Calls Try.prog 17 #[.slice (some ⟨c, 0, none⟩) i cap, .int .i64 (i : Int), .int .i64 8] w fun e w' => e = .returned (.agg (ba 4 (fun j => F n j ^^^ mkw 8 i (F p) j))) ∧ Below w.heap.size w w' := by
  have HA := hid hA
  have e2 : (i : Int) - 1 = (p : Int) := by omega
  have e3 : (i : Int) - 8 = (n : Int) := by omega
  have wp : IntKind.i64.wrap (p : Int) = p := by rw [IntKind.wrap_i64]; omega
  have wn : IntKind.i64.wrap (n : Int) = n := by rw [IntKind.wrap_i64]; omega
  have b1 : (0 : Int) ≤ (n : Int) := by omega
  have b2 : (n : Int) < (i : Int) := by omega
  have b3 : (0 : Int) ≤ (p : Int) := by omega
  have b4 : (p : Int) < (i : Int) := by omega
  have HR : Hid ((w.alloc (.cells #[.int .u8 0, .int .u8 0, .int .u8 0, .int .u8 0] 38)).rangeAt c (p * 4) (ba 4 (F p)).toList) := hid (World.rangeAt_alloc (hA.range (i := p) (by omega)) _)
  have HX : Hid (X0 w (((w.alloc (.cells #[.int .u8 0, .int .u8 0, .int .u8 0, .int .u8 0] 38)).alloc (.cells #[.int .u8 0, .int .u8 0, .int .u8 0, .int .u8 0] 38)).setRow (w.heap.size + 1) (ba 4 (F p))) (F p)) := hid (X0.start w (F p))
  have HL2 : Hid (At ((w.alloc (.cells #[.int .u8 0, .int .u8 0, .int .u8 0, .int .u8 0] 38)).alloc (.cells #[.int .u8 0, .int .u8 0, .int .u8 0, .int .u8 0] 38)) (w.heap.size + 1) 4 38 (fun _ => 0)) := hid (by have := At.new (w.alloc (.cells (ba 4 (fun _ => 0)) 38)) 4 38 (fun _ => 0); rw [World.size_alloc] at this; exact this)
  have HBy := hid (hA.byte p (by omega))
  have HBn := hid (hA.byte n (by omega))
  have HAn : Hid (∀ w', Below w.heap.size w w' → ∀ j, j < 4 → w'.cell? ⟨c, n * 4 + j, none⟩ = some (.int .u8 (F n j : Int))) := hid (fun w' hb => (hA.self hb).cell n (by omega))
  have hmod : ((i : Int) % 8 == 0) = false := by rw [beq_eq_false_iff_ne]; omega
  have hmod4 : ((i : Int) % 8 == 4) = false := by rw [beq_eq_false_iff_ne]; omega
  have HE := hid (show mkw 8 i (F p) = F p by funext j; unfold mkw; rw [if_neg hr, if_neg (fun h => h8 h.2)])
  generalize F p = g at *
  generalize F n = h at *
  clear hA hn hp hr h8
  go_enter Try.func17, Try.ntmps17
  go_wp2_with (first
    | (refine step_load_mid_ba rfl 38 (.tmp 12) rfl c (p * 4) 4 g 5 rfl HR.out Try.underlying38 infoq ?_)
    | (refine step_store_ba rfl 38 (.tmp 7) (.tmp 13) rfl (w.heap.size + 1) 4 38 (fun _ => 0) g rfl rfl HL2.out infoq ?_; generalize (((w.alloc (.cells #[.int .u8 0, .int .u8 0, .int .u8 0, .int .u8 0] 38)).alloc (.cells #[.int .u8 0, .int .u8 0, .int .u8 0, .int .u8 0] 38)).setRow (w.heap.size + 1) (ba 4 g)) = w1 at *))
  have HG := HX
  have HGl := HBy
  have HEQ : Hid (∀ x, x < 4 → (fun x => h x ^^^ g x) x = (fun j => h j ^^^ mkw 8 i g j) x) := hid (fun x hx => by show h x ^^^ g x = h x ^^^ mkw 8 i g x; rw [HE.out])
  clear HE
  go_loopw [8] (fun i wr => ∃ j : Nat, j ≤ 4 ∧ i = .int .i64 j ∧ XInv w wr g h j) (fun i _ => 4 - (intOf i).toNat)
  case atStart => exact ⟨0, by omega, rfl, HG.out.inv h⟩
  case round =>
    obtain ⟨j, hj, rfl, hI⟩ := hrel
    have HI := hid hI
    clear hI
    by_cases hlt : j < 4
    · have hc1 : wr.drew.cell? ⟨w.heap.size + 1, j, none⟩ = some (.int .u8 (g j : Int)) := by have := HI.out.drew.var.cell hlt; simpa using this
      have hf1 := HI.out.drew.var.free j
      have hc2 := HAn.out _ HI.out.drew.low j hlt
      have HT := hid (HI.out.drew.step)
      have hgl := HGl.out j hlt
      have hhl := HBn.out j hlt
      have HXR : Hid (bits .xor .u8 (g j : Int) (h j : Int) = ((h j ^^^ g j : Nat) : Int)) := hid (by rw [xor8 hgl hhl, Nat.xor_comm])
      have j0 : (0 : Int) ≤ (j : Int) := by omega
      have j4 : (j : Int) < 4 := by omega
      generalize h j ^^^ g j = z at HXR HT
      generalize g j = gj at *
      generalize h j = hj' at *
      clear hgl hhl
      go_wp2
      go_region
      go_wp2
      go_roundw
      case rel => exact ⟨j + 1, by omega, by go_num, by rw [HXR.out]; exact HT.out⟩
      case measure => simp [intOf]; omega
    · obtain rfl : j = 4 := by omega
      have HV : Hid (At wr (w.heap.size + 1) 4 38 (fun x => h x ^^^ g x)) := hid (HI.out.var.ext (fun x hx => if_pos hx))
      have HN := hid HI.out.out
      have HLo := hid HI.out.low
      go_wp2_with (first
        | (refine step_load_ba rfl 38 _ rfl (w.heap.size + 1) 4 38 5 _ rfl HV.out Try.underlying38 infoq ?_)
        | (refine step_store_ba rfl 38 _ _ rfl w.heap.size 4 38 _ _ rfl rfl HN.out infoq ?_))
      refine ret_ba rfl rfl Try.underlying38 infoq rfl (HN.out.row (fun x => h x ^^^ g x)) ⟨?_, below_setRow HLo.out (Nat.le_refl _) _⟩
      rw [ba_ext HEQ.out]

theorem word_any (c cap i K n p : Nat) (F : Nat → Nat → Nat) (w : World) (hn : n + K = i) (hp : p + 1 = i) (hK : 0 < K) (hi : i ≤ 1000) (hA : RA w c i F) :
    Calls Try.prog 17 #[.slice (some ⟨c, 0, none⟩) i cap, .int .i64 (i : Int), .int .i64 (K : Int)] w fun e w' => e = .returned (.agg (ba 4 (fun j => F n j ^^^ mkw K i (F p) j))) ∧ Below w.heap.size w w' := by
  by_cases h1 : i % K = 0
  · exact word_mark c cap i K n p F w hn hp hK hi hA h1
  · by_cases h2 : K = 8
    · subst h2
      by_cases h3 : i % 8 = 4
      · exact word_sub c cap i n p F w hn hp hi hA h3
      · exact word_plain8 c cap i n p F w hn hp hi hA h1 h3
    · exact word_plain c cap i K n p F w hn hp hK hi hA h1 h2
end Go.Proofs.Ytnklljlgghenpaa
