import Derived.Test.YthcjgjhoifnpjaaProg
import Derived.Test.YthcjgjhoifnpjaaOcb
import Derived.Test.YthcjgjhoifnpjaaArw
import Derived.Test.YthcjgjhoifnpjaaAri
import Derived.Test.YthcjgjhoifnpjaaKcn
import Derived.Laws.Bits64
import Derived.Deep.RegionWith
set_option maxRecDepth 100000
namespace Go.Proofs.Ythcjgjhoifnpjaa
open Go.RowKit

/-! ### words, rotated -/
theorem rotl_rt {x m : Nat} (hx : x < 2 ^ 64) (_hm : m < 64) : rotl (x : Int) m = (rt x m : Nat) := by
  unfold rotl rt
  have d : ((x : Int) / 2 ^ (64 - m)) = ((x / 2 ^ (64 - m) : Nat) : Int) := by simp
  have e : IntKind.u64.wrap ((x : Int) * 2 ^ m) = ((x * 2 ^ m % 2 ^ 64 : Nat) : Int) := by rw [wu64]; simp
  rw [e, d, bits_or_u64_nat _ _ (Nat.mod_lt _ (by decide)) (by have := Nat.div_le_self x (2 ^ (64 - m)); omega)]
theorem rot_to {x m : Nat} {k : Int} (hx : x < 2 ^ 64) (hk : k % 64 = m) (w : World) :
    Calls Try.prog 82 #[.int .u64 (x : Int), .int .i64 k] w fun e w' => e = .returned (.int .u64 (rt x m : Nat)) ∧ w' = w := by
  have h := orot_any (x : Int) k w (by omega)
  rw [show (k % 64).toNat = m by omega, rotl_rt hx (by omega)] at h
  exact h
theorem refrot_to {x m : Nat} {k : Int} (hx : x < 2 ^ 64) (hk : k % 64 = m) (w : World) :
    Calls Try.prog 62 #[.int .u64 (x : Int), .int .i64 k] w fun e w' => e = .returned (.int .u64 (rt x m : Nat)) ∧ w' = w := by
  have h := refrot_any (x : Int) k w (by omega)
  rw [show (k % 64).toNat = m by omega, ← rot_math _ (by omega) m (by omega), rotl_rt hx (by omega)] at h
  exact h

/-! ### places -/
theorem kplace_any (x y : Nat) (w : World) (hx : x < 1000000) (hy : y < 1000000) :
    Calls Try.prog 80 #[.int .i64 (x : Int), .int .i64 (y : Int)] w fun e w' => e = .returned (.int .i64 ((x % 5 + 5 * (y % 5) : Nat) : Int)) ∧ w' = w := by
  go_enter Try.func80, Try.ntmps80
  go_wp2
  go_ret
  exact ⟨ret_int (by omega), rfl⟩
theorem ktarget_any (i : Nat) (w : World) (hi : i < 25) :
    Calls Try.prog 83 #[.int .i64 (i : Int)] w fun e w' => e = .returned (.int .i64 (dst i : Nat)) ∧ w' = w := by
  have HD : Hid (dst i = (i / 5) % 5 + 5 * ((2 * (i % 5) + 3 * (i / 5)) % 5)) := hid (by unfold dst; omega)
  have HP := hid (kplace_any (i / 5) (2 * (i % 5) + 3 * (i / 5)) w (by omega) (by omega))
  go_enter Try.func83, Try.ntmps83
  go_wp2_with (first | (go_at_call 80; refine (HP.out).mono ?_; rintro e w1 ⟨rfl, rfl⟩))
  go_ret
  exact ⟨ret_int (by rw [HD.out]; push_cast; rfl), rfl⟩
set_option maxRecDepth 100000 in
theorem knext_any (r : Nat) (w : World) (hr : r < 256) :
    Calls Try.prog 79 #[.int .u8 (r : Int)] w fun e w' => e = .returned (.int .u8 (nxt r : Nat)) ∧ w' = w := by
  by_cases h : 128 ≤ r
  · have HX := hid (show bits .xor .u8 ((r * 2 % 256 : Nat) : Int) ((113 : Nat) : Int) = ((nxt r : Nat) : Int) by
      rw [xor8 (by omega) (by decide)]; unfold nxt; rw [if_pos h])
    go_enter Try.func79, Try.ntmps79
    go_wp2
    go_ret
    exact ⟨ret_int (by rw [← HX.out]; congr 1), rfl⟩
  · have HX := hid (show nxt r = r * 2 by unfold nxt; rw [if_neg h])
    go_enter Try.func79, Try.ntmps79
    go_wp2
    go_ret
    exact ⟨ret_int (by rw [HX.out]; omega), rfl⟩
end Go.Proofs.Ythcjgjhoifnpjaa

namespace Go.Proofs.Ythcjgjhoifnpjaa
open Go.RowKit

theorem kinf25 : (Try.prog.info? 54).map (·.size) = some 25 := by kernel_rfl
theorem kinf1 : (Try.prog.info? 53).map (·.size) = some 1 := by kernel_rfl
theorem kinfI : (Try.prog.info? 3).map (·.size) = some 1 := by kernel_rfl
theorem kinf24 : (Try.prog.info? 86).map (·.size) = some 24 := by kernel_rfl
theorem kinfT : (Try.prog.info? 89).map (·.size) = some 25 := by kernel_rfl
theorem kinf5 : (Try.prog.info? 80).map (·.size) = some 5 := by kernel_rfl
theorem kidx25 (f : Nat → Nat) {j : Nat} (hj : j < 25) (w : World) : (Instr.index 54 (.agg (wa 25 f)) (.int .i64 (j : Int))).run Try.prog w = .ok (.int .u64 (f j : Int)) w := run_index_wa w 54 53 25 f j Try.underlying54 Try.underlying53 kinf1 hj
theorem kidx24 (f : Nat → Nat) {j : Nat} (hj : j < 24) (w : World) : (Instr.index 86 (.agg (wa 24 f)) (.int .i64 (j : Int))).run Try.prog w = .ok (.int .u64 (f j : Int)) w := run_index_wa w 86 53 24 f j Try.underlying86 Try.underlying53 kinf1 hj
theorem kidxT (f : Nat → Nat) {j : Nat} (hj : j < 25) (w : World) : (Instr.index 89 (.agg (ia 25 f)) (.int .i64 (j : Int))).run Try.prog w = .ok (.int .i64 (f j : Int)) w := run_index_ia w 89 3 25 f j Try.underlying89 Try.underlying3 kinfI hj
theorem x64 {a b : Nat} (ha : a < 2 ^ 64) (hb : b < 2 ^ 64) : bits .xor .u64 (a : Int) (b : Int) = ((a ^^^ b : Nat) : Int) := bits_xor_u64_nat a b (by omega) (by omega)

/-! ### turns -/
structure KTn (w wr : World) (t : Nat) : Prop where
  out : Ai wr w.heap.size 25 89 (fun _ => 0)
  var : Ai wr (w.heap.size + 1) 25 89 (tuN t)
  low : Below w.heap.size w wr
theorem KTn.start (w : World) : KTn w ((w.alloc (.cells (ia 25 (fun _ => 0)) 89)).alloc (.cells (ia 25 (fun _ => 0)) 89)) 0 := by
  refine ⟨(Ai.new w 25 89 (fun _ => 0)).alloc _, ?_, ((Below.refl _ _).alloc (Nat.le_refl _) _).alloc (by simp) _⟩
  have := Ai.new (w.alloc (.cells (ia 25 (fun _ => 0)) 89)) 25 89 (fun _ => 0)
  rw [World.size_alloc] at this
  exact this
theorem KTn.step {w wr : World} {t : Nat} (h : KTn w wr t) {z : Nat} (hz : z = (t + 1) * (t + 2) / 2 % 64) : KTn w (wr.setCell ⟨w.heap.size + 1, pth t, none⟩ (.int .i64 (z : Int))) (t + 1) := by
  subst hz
  exact ⟨h.out.apart (by simp) _, h.var.set (pth t) _, h.low.setCell (by simp) _⟩

set_option maxRecDepth 100000 in
set_option maxHeartbeats 800000 in
theorem kturns_any (w : World) :
    Calls Try.prog 81 #[] w fun e w' => e = .returned (.agg (ia 25 tun)) ∧ Below w.heap.size w w' := by
  have HS := hid (KTn.start w)
  have HP := hid pth_lt
  have HN : Hid (∀ t, pth (t + 1) = dst (pth t)) := hid (fun _ => rfl)
  go_enter Try.func81, Try.ntmps81
  go_wp2_with (first | (go_at_call 80; refine (kplace_any 1 0 _ (by decide) (by decide)).mono ?_; rintro e w1 ⟨rfl, rfl⟩))
  go_loopw [2, 5] (fun a i wr => ∃ t : Nat, t ≤ 24 ∧ i = .int .i64 t ∧ a = .int .i64 (pth t : Nat) ∧ KTn w wr t) (fun _ i _ => 24 - (intOf i).toNat)
  case atStart => exact ⟨0, by omega, rfl, rfl, HS.out⟩
  case round =>
    obtain ⟨t, ht, rfl, rfl, hI⟩ := hrel
    have HI := hid hI
    clear hI
    by_cases hlt : t < 24
    · obtain ⟨u, hu⟩ : ∃ u, (t + 1) * (t + 2) = u := ⟨_, rfl⟩
      have hu2 : u ≤ 600 := by rw [← hu]; exact Nat.mul_le_mul (show t + 1 ≤ 24 by omega) (show t + 2 ≤ 25 by omega)
      have e1 : ((t : Int) + 1) * ((t : Int) + 2) = (u : Int) := by rw [← hu]; simp
      have w1 : IntKind.i64.wrap (u : Int) = u := by rw [IntKind.wrap_i64]; omega
      have HU := hid hu
      clear hu
      have hp := HP.out t
      have hq := HN.out t
      have HQ := hid hq
      have hc := HI.out.var.cell hp
      have hf := HI.out.var.free (pth t)
      have HT := hid (fun z hz => HI.out.step (z := z) hz)
      obtain ⟨a, ha⟩ : ∃ a, pth t = a := ⟨_, rfl⟩
      rw [ha] at hp hc hf HT HQ
      have HD := hid (fun w => ktarget_any a w hp)
      rw [ha]
      clear ha hq
      go_wp2_with (first | (go_at_call 83; (with_reducible refine (HD.out _).mono ?_); rintro e w1 ⟨rfl, rfl⟩))
      go_roundw
      case rel => exact ⟨t + 1, by omega, by go_num, by rw [HQ.out], by have := HT.out (u / 2 % 64) (by rw [HU.out]); simpa using this⟩
      case measure => simp [intOf]; omega
    · obtain rfl : t = 24 := by omega
      have HM := hid HI.out.var
      have HN := hid HI.out.out
      go_wp2_with (first
        | (refine step_load_ia rfl 89 _ rfl (w.heap.size + 1) 25 89 3 _ rfl HM.out Try.underlying89 kinfT ?_)
        | (refine step_store_ia rfl 89 _ _ rfl w.heap.size 25 89 _ _ rfl rfl HN.out kinfT ?_))
      exact ret_ia rfl rfl Try.underlying89 kinfT rfl (HI.out.out.row (tuN 24)) ⟨rfl, below_setRow HI.out.low (Nat.le_refl _) _⟩

/-! ### marks -/
structure KMn (w wr : World) (i j : Nat) : Prop where
  out : Aw wr w.heap.size 24 86 (fun _ => 0)
  var : Aw wr (w.heap.size + 1) 24 86 (mkN i j)
  low : Below w.heap.size w wr
theorem KMn.start (w : World) : KMn w ((w.alloc (.cells (wa 24 (fun _ => 0)) 86)).alloc (.cells (wa 24 (fun _ => 0)) 86)) 0 0 := by
  refine ⟨(Aw.new w 24 86 (fun _ => 0)).alloc _, ?_, ((Below.refl _ _).alloc (Nat.le_refl _) _).alloc (by simp) _⟩
  have := Aw.new (w.alloc (.cells (wa 24 (fun _ => 0)) 86)) 24 86 (fun _ => 0)
  rw [World.size_alloc] at this
  rw [mkN_zero]
  exact this
theorem KMn.step {w wr : World} {i j : Nat} (h : KMn w wr i j) {z : Nat} (hz : z = mkP i (j + 1)) : KMn w (wr.setCell ⟨w.heap.size + 1, i, none⟩ (.int .u64 (z : Int))) i (j + 1) := by
  refine ⟨h.out.apart (by simp) _, ?_, h.low.setCell (by simp) _⟩
  rw [← mkN_step i j hz]
  exact h.var.set i z
theorem KMn.drew {w wr : World} {i j : Nat} (h : KMn w wr i j) : KMn w wr.drew i j := ⟨h.out.drew, h.var.drew, h.low.drew⟩
theorem KMn.next {w wr : World} {i : Nat} (h : KMn w wr i 7) : KMn w wr (i + 1) 0 := by
  refine ⟨h.out, ?_, h.low⟩
  rw [← mkN_next]; exact h.var
end Go.Proofs.Ythcjgjhoifnpjaa

namespace Go.Proofs.Ythcjgjhoifnpjaa
open Go.RowKit

theorem or64 {a b : Nat} (ha : a < 2 ^ 64) (hb : b < 2 ^ 64) : bits .or .u64 (a : Int) (b : Int) = ((a ||| b : Nat) : Int) := bits_or_u64_nat a b (by omega) (by omega)
theorem mkP_next (i j q : Nat) (h : rwN (7 * i + j) % 2 = q) : mkP i (j + 1) = mkP i j ||| q * 2 ^ (2 ^ j - 1) := by rw [← h]; rfl

set_option maxRecDepth 100000 in
set_option maxHeartbeats 4000000 in
theorem kmarks_any (w : World) :
    Calls Try.prog 74 #[] w fun e w' => e = .returned (.agg (wa 24 mkf)) ∧ Below w.heap.size w w' := by
  have HS := hid (KMn.start w)
  have HR := hid rwN_lt
  have HN : Hid (∀ t, rwN (t + 1) = nxt (rwN t)) := hid (fun _ => rfl)
  have HL := hid mkP_lt
  go_enter Try.func74, Try.ntmps74
  go_wp2
  go_loopw [2, 5] (fun r i wr => ∃ t : Nat, t ≤ 24 ∧ i = .int .i64 t ∧ r = .int .u8 (rwN (7 * t) : Nat) ∧ KMn w wr t 0) (fun _ i _ => 24 - (intOf i).toNat)
  case atStart => exact ⟨0, by omega, rfl, rfl, HS.out⟩
  case round =>
    obtain ⟨t, ht, rfl, rfl, hI⟩ := hrel
    have HI := hid hI
    clear hI
    by_cases hlt : t < 24
    · obtain ⟨wz, rfl⟩ : ∃ wz, wz = wr := ⟨_, rfl⟩
      have hlt8 : (t : Int) < 24 := by omega
      go_wp2
      go_loopw [2, 8] (fun r k wr => ∃ j : Nat, j ≤ 7 ∧ k = .int .i64 j ∧ r = .int .u8 (rwN (7 * t + j) : Nat) ∧ KMn w wr t j) (fun _ k _ => 7 - (intOf k).toNat)
      case atStart => exact ⟨0, by omega, rfl, rfl, HI.out⟩
      case round =>
        obtain ⟨j, hj, rfl, rfl, hI⟩ := hrel
        have HI2 := hid hI
        clear hI
        by_cases hltj : j < 7
        · have hr := HR.out (7 * t + j)
          have HQ := hid (HN.out (7 * t + j))
          have hc := HI2.out.var.cell hlt
          rw [mkN_here] at hc
          have hf := HI2.out.var.free t
          have hx := HL.out t hlt j (by omega)
          have ha := and8_one hr
          have HP := hid (mkP_next t j)
          have HT : Hid (∀ (v : Int) (z : Nat), v = (z : Int) → z = mkP t (j + 1) → KMn w (wr.setCell ⟨w.heap.size + 1, t, none⟩ (.int .u64 v)).drew t (j + 1)) := hid (fun v z hv hz => by subst hv; exact (HI2.out.step hz).drew)
          have HD := hid (fun w => knext_any (rwN (7 * t + j)) w hr)
          rw [← HQ.out] at HD
          generalize hrr : rwN (7 * t + j) = r at *
          generalize mkP t j = x at *
          obtain ⟨q, hq⟩ : ∃ q, r % 2 = q := ⟨_, rfl⟩
          have hq2 : q = 0 ∨ q = 1 := by omega
          have HZ := hid (HP.out q hq)
          rw [hq] at ha
          clear hrr HQ HP hq
          have hj7 : j = 0 ∨ j = 1 ∨ j = 2 ∨ j = 3 ∨ j = 4 ∨ j = 5 ∨ j = 6 := by omega
          rcases hq2 with rfl | rfl <;> rcases hj7 with rfl | rfl | rfl | rfl | rfl | rfl | rfl
          · have HV : Hid (bits .or .u64 (x : Int) 0 = ((x ||| 0 : Nat) : Int)) := hid (or64 (b := 0) hx (by omega))
            have HW : Hid (x ||| 0 = mkP t (0 + 1)) := hid (HZ.out).symm
            go_wp2
            go_region
            go_wp2_with (first | (go_at_call 79; (with_reducible refine (HD.out _).mono ?_); rintro e w1 ⟨rfl, rfl⟩))
            go_roundw
            case rel => exact ⟨1, by omega, rfl, rfl, HT.out _ _ HV.out HW.out⟩
            case measure => simp [intOf]
          · have HV : Hid (bits .or .u64 (x : Int) 0 = ((x ||| 0 : Nat) : Int)) := hid (or64 (b := 0) hx (by omega))
            have HW : Hid (x ||| 0 = mkP t (1 + 1)) := hid (HZ.out).symm
            go_wp2
            go_region
            go_wp2_with (first | (go_at_call 79; (with_reducible refine (HD.out _).mono ?_); rintro e w1 ⟨rfl, rfl⟩))
            go_roundw
            case rel => exact ⟨2, by omega, rfl, rfl, HT.out _ _ HV.out HW.out⟩
            case measure => simp [intOf]
          · have HV : Hid (bits .or .u64 (x : Int) 0 = ((x ||| 0 : Nat) : Int)) := hid (or64 (b := 0) hx (by omega))
            have HW : Hid (x ||| 0 = mkP t (2 + 1)) := hid (HZ.out).symm
            go_wp2
            go_region
            go_wp2_with (first | (go_at_call 79; (with_reducible refine (HD.out _).mono ?_); rintro e w1 ⟨rfl, rfl⟩))
            go_roundw
            case rel => exact ⟨3, by omega, rfl, rfl, HT.out _ _ HV.out HW.out⟩
            case measure => simp [intOf]
          · have HV : Hid (bits .or .u64 (x : Int) 0 = ((x ||| 0 : Nat) : Int)) := hid (or64 (b := 0) hx (by omega))
            have HW : Hid (x ||| 0 = mkP t (3 + 1)) := hid (HZ.out).symm
            go_wp2
            go_region
            go_wp2_with (first | (go_at_call 79; (with_reducible refine (HD.out _).mono ?_); rintro e w1 ⟨rfl, rfl⟩))
            go_roundw
            case rel => exact ⟨4, by omega, rfl, rfl, HT.out _ _ HV.out HW.out⟩
            case measure => simp [intOf]
          · have HV : Hid (bits .or .u64 (x : Int) 0 = ((x ||| 0 : Nat) : Int)) := hid (or64 (b := 0) hx (by omega))
            have HW : Hid (x ||| 0 = mkP t (4 + 1)) := hid (HZ.out).symm
            go_wp2
            go_region
            go_wp2_with (first | (go_at_call 79; (with_reducible refine (HD.out _).mono ?_); rintro e w1 ⟨rfl, rfl⟩))
            go_roundw
            case rel => exact ⟨5, by omega, rfl, rfl, HT.out _ _ HV.out HW.out⟩
            case measure => simp [intOf]
          · have HV : Hid (bits .or .u64 (x : Int) 0 = ((x ||| 0 : Nat) : Int)) := hid (or64 (b := 0) hx (by omega))
            have HW : Hid (x ||| 0 = mkP t (5 + 1)) := hid (HZ.out).symm
            go_wp2
            go_region
            go_wp2_with (first | (go_at_call 79; (with_reducible refine (HD.out _).mono ?_); rintro e w1 ⟨rfl, rfl⟩))
            go_roundw
            case rel => exact ⟨6, by omega, rfl, rfl, HT.out _ _ HV.out HW.out⟩
            case measure => simp [intOf]
          · have HV : Hid (bits .or .u64 (x : Int) 0 = ((x ||| 0 : Nat) : Int)) := hid (or64 (b := 0) hx (by omega))
            have HW : Hid (x ||| 0 = mkP t (6 + 1)) := hid (HZ.out).symm
            go_wp2
            go_region
            go_wp2_with (first | (go_at_call 79; (with_reducible refine (HD.out _).mono ?_); rintro e w1 ⟨rfl, rfl⟩))
            go_roundw
            case rel => exact ⟨7, by omega, rfl, rfl, HT.out _ _ HV.out HW.out⟩
            case measure => simp [intOf]
          · have HV : Hid (bits .or .u64 (x : Int) 1 = ((x ||| 1 : Nat) : Int)) := hid (or64 (b := 1) hx (by omega))
            have HW : Hid (x ||| 1 = mkP t (0 + 1)) := hid (HZ.out).symm
            go_wp2
            go_region
            go_wp2_with (first | (go_at_call 79; (with_reducible refine (HD.out _).mono ?_); rintro e w1 ⟨rfl, rfl⟩))
            go_roundw
            case rel => exact ⟨1, by omega, rfl, rfl, HT.out _ _ HV.out HW.out⟩
            case measure => simp [intOf]
          · have HV : Hid (bits .or .u64 (x : Int) 2 = ((x ||| 2 : Nat) : Int)) := hid (or64 (b := 2) hx (by omega))
            have HW : Hid (x ||| 2 = mkP t (1 + 1)) := hid (HZ.out).symm
            go_wp2
            go_region
            go_wp2_with (first | (go_at_call 79; (with_reducible refine (HD.out _).mono ?_); rintro e w1 ⟨rfl, rfl⟩))
            go_roundw
            case rel => exact ⟨2, by omega, rfl, rfl, HT.out _ _ HV.out HW.out⟩
            case measure => simp [intOf]
          · have HV : Hid (bits .or .u64 (x : Int) 8 = ((x ||| 8 : Nat) : Int)) := hid (or64 (b := 8) hx (by omega))
            have HW : Hid (x ||| 8 = mkP t (2 + 1)) := hid (HZ.out).symm
            go_wp2
            go_region
            go_wp2_with (first | (go_at_call 79; (with_reducible refine (HD.out _).mono ?_); rintro e w1 ⟨rfl, rfl⟩))
            go_roundw
            case rel => exact ⟨3, by omega, rfl, rfl, HT.out _ _ HV.out HW.out⟩
            case measure => simp [intOf]
          · have HV : Hid (bits .or .u64 (x : Int) 128 = ((x ||| 128 : Nat) : Int)) := hid (or64 (b := 128) hx (by omega))
            have HW : Hid (x ||| 128 = mkP t (3 + 1)) := hid (HZ.out).symm
            go_wp2
            go_region
            go_wp2_with (first | (go_at_call 79; (with_reducible refine (HD.out _).mono ?_); rintro e w1 ⟨rfl, rfl⟩))
            go_roundw
            case rel => exact ⟨4, by omega, rfl, rfl, HT.out _ _ HV.out HW.out⟩
            case measure => simp [intOf]
          · have HV : Hid (bits .or .u64 (x : Int) 32768 = ((x ||| 32768 : Nat) : Int)) := hid (or64 (b := 32768) hx (by omega))
            have HW : Hid (x ||| 32768 = mkP t (4 + 1)) := hid (HZ.out).symm
            go_wp2
            go_region
            go_wp2_with (first | (go_at_call 79; (with_reducible refine (HD.out _).mono ?_); rintro e w1 ⟨rfl, rfl⟩))
            go_roundw
            case rel => exact ⟨5, by omega, rfl, rfl, HT.out _ _ HV.out HW.out⟩
            case measure => simp [intOf]
          · have HV : Hid (bits .or .u64 (x : Int) 2147483648 = ((x ||| 2147483648 : Nat) : Int)) := hid (or64 (b := 2147483648) hx (by omega))
            have HW : Hid (x ||| 2147483648 = mkP t (5 + 1)) := hid (HZ.out).symm
            go_wp2
            go_region
            go_wp2_with (first | (go_at_call 79; (with_reducible refine (HD.out _).mono ?_); rintro e w1 ⟨rfl, rfl⟩))
            go_roundw
            case rel => exact ⟨6, by omega, rfl, rfl, HT.out _ _ HV.out HW.out⟩
            case measure => simp [intOf]
          · have HV : Hid (bits .or .u64 (x : Int) 9223372036854775808 = ((x ||| 9223372036854775808 : Nat) : Int)) := hid (or64 (b := 9223372036854775808) hx (by omega))
            have HW : Hid (x ||| 9223372036854775808 = mkP t (6 + 1)) := hid (HZ.out).symm
            go_wp2
            go_region
            go_wp2_with (first | (go_at_call 79; (with_reducible refine (HD.out _).mono ?_); rintro e w1 ⟨rfl, rfl⟩))
            go_roundw
            case rel => exact ⟨7, by omega, rfl, rfl, HT.out _ _ HV.out HW.out⟩
            case measure => simp [intOf]
        · obtain rfl : j = 7 := by omega
          go_wp2
          go_roundw
          case rel => exact ⟨t + 1, by omega, by go_num, rfl, HI2.out.next⟩
          case measure => simp [intOf]; omega
    · obtain rfl : t = 24 := by omega
      have HM := hid HI.out.var
      have HN := hid HI.out.out
      go_wp2_with (first
        | (refine step_load_wa rfl 86 _ rfl (w.heap.size + 1) 24 86 53 _ rfl HM.out Try.underlying86 kinf24 ?_)
        | (refine step_store_wa rfl 86 _ _ rfl w.heap.size 24 86 _ _ rfl rfl HN.out kinf24 ?_))
      refine ret_wa rfl rfl Try.underlying86 kinf24 rfl (HI.out.out.row (mkN 24 0)) ⟨?_, below_setRow HI.out.low (Nat.le_refl _) _⟩
      rw [wa_ext mkN_all]
end Go.Proofs.Ythcjgjhoifnpjaa

namespace Go.Proofs.Ythcjgjhoifnpjaa
open Go.RowKit

/-! ### the document's turn -/
theorem dst_mod (a : Nat) (ha : a < 25) : dst a % 5 = a / 5 ∧ dst a / 5 = (2 * (a % 5) + 3 * (a / 5)) % 5 := by unfold dst; omega

set_option maxRecDepth 100000 in
set_option maxHeartbeats 800000 in
theorem krefturn_any (x y : Int) (w : World) :
    Calls Try.prog 63 #[.int .i64 x, .int .i64 y] w fun e w' => e = .returned (.int .i64 (tq x y : Nat)) ∧ w' = w := by
  have HP := hid pth_lt
  have HN : Hid (∀ t, pth (t + 1) = dst (pth t)) := hid (fun _ => rfl)
  have HE := hid (fun (t : Nat) (h : t < 24) => tq_pth h)
  have HO := hid (fun h => tq_none (x := x) (y := y) h)
  have HM := hid dst_mod
  go_enter Try.func63, Try.ntmps63
  go_wp2
  go_loop [5, 6, 7] (fun a b i => ∃ t : Nat, t ≤ 24 ∧ i = .int .i64 t ∧ a = .int .i64 (pth t % 5 : Nat) ∧ b = .int .i64 (pth t / 5 : Nat) ∧ Hid (∀ s, s < t → ¬ (((pth s % 5 : Nat) : Int) = x ∧ ((pth s / 5 : Nat) : Int) = y))) (fun _ _ i => 24 - (intOf i).toNat)
  case atStart => exact ⟨0, by omega, rfl, rfl, rfl, hid (fun s hs => absurd hs (Nat.not_lt_zero s))⟩
  case round =>
    obtain ⟨t, ht, rfl, rfl, rfl, HI⟩ := hrel
    by_cases hlt : t < 24
    · obtain ⟨u, hu⟩ : ∃ u, (t + 1) * (t + 2) = u := ⟨_, rfl⟩
      have hu2 : u ≤ 600 := by rw [← hu]; exact Nat.mul_le_mul (show t + 1 ≤ 24 by omega) (show t + 2 ≤ 25 by omega)
      have e1 : ((t : Int) + 1) * ((t : Int) + 2) = (u : Int) := by rw [← hu]; simp
      have w1 : IntKind.i64.wrap (u : Int) = u := by rw [IntKind.wrap_i64]; omega
      have HE1 := hid (HE.out t hlt)
      rw [hu] at HE1
      have HM1 := hid (HM.out (pth t) (HP.out t))
      rw [← HN.out t] at HM1
      have hp := HP.out t
      have HI1 : Hid (¬ (((pth t % 5 : Nat) : Int) = x ∧ ((pth t / 5 : Nat) : Int) = y) → ∀ s, s < t + 1 → ¬ (((pth s % 5 : Nat) : Int) = x ∧ ((pth s / 5 : Nat) : Int) = y)) := hid (fun h s hs => by
        by_cases e : s = t
        · subst e; exact h
        · exact HI.out s (by omega))
      clear hu
      obtain ⟨c, hc⟩ : ∃ c, pth t % 5 = c := ⟨_, rfl⟩
      obtain ⟨d, hd⟩ : ∃ c, pth t / 5 = c := ⟨_, rfl⟩
      have hc2 : c < 5 := by omega
      have hd2 : d < 5 := by omega
      rw [hc, hd] at HE1 HM1 HI1
      rw [hc, hd]
      clear hc hd hp
      by_cases hx : (c : Int) = x
      · by_cases hy : (d : Int) = y
        · subst hx; subst hy
          clear HO HI HI1
          go_wp2
          go_ret
          exact ⟨ret_int (by rw [HE1.out]; simp), rfl⟩
        · have hxt : ((c : Int) == x) = true := by simpa using hx
          have hyf : ((d : Int) == y) = false := by simpa using hy
          have HZ := hid (HI1.out (fun h => hy h.2))
          clear hx hy HI HI1 HO
          go_wp2
          go_round
          case rel => exact ⟨t + 1, by omega, by go_num, by rw [HM1.out.1], by rw [HM1.out.2]; simp, HZ⟩
          case measure => simp [intOf]; omega
      · have hxf : ((c : Int) == x) = false := by simpa using hx
        have HZ := hid (HI1.out (fun h => hx h.1))
        clear hx HI HI1 HO
        go_wp2
        go_round
        case rel => exact ⟨t + 1, by omega, by go_num, by rw [HM1.out.1], by rw [HM1.out.2]; simp, HZ⟩
        case measure => simp [intOf]; omega
    · obtain rfl : t = 24 := by omega
      have HZ := hid (HO.out (fun t ht => HI.out t ht))
      clear HO HI
      go_wp2
      go_ret
      exact ⟨ret_int (by rw [HZ.out]; rfl), rfl⟩
end Go.Proofs.Ythcjgjhoifnpjaa

namespace Go.Proofs.Ythcjgjhoifnpjaa
open Go.RowKit

/-! ### sums of columns -/
structure KSn (f : Nat → Nat) (w wr : World) (j : Nat) : Prop where
  src : Aw wr w.heap.size 25 54 f
  out : Aw wr (w.heap.size + 1) 5 80 (fun _ => 0)
  var : Aw wr (w.heap.size + 2) 5 80 (suN f j)
  low : Below w.heap.size w wr
theorem KSn.start (f : Nat → Nat) (w : World) : KSn f w (((w.alloc (.cells (wa 25 f) 54)).alloc (.cells (wa 5 (fun _ => 0)) 80)).alloc (.cells (wa 5 (fun _ => 0)) 80)) 0 := by
  refine ⟨((Aw.new w 25 54 f).alloc _).alloc _, ?_, ?_, (((Below.refl _ _).alloc (Nat.le_refl _) _).alloc (by simp) _).alloc (by simp; omega) _⟩
  · have := (Aw.new (w.alloc (.cells (wa 25 f) 54)) 5 80 (fun _ => 0)).alloc (.cells (wa 5 (fun _ => 0)) 80)
    rw [World.size_alloc] at this
    exact this
  · have := Aw.new ((w.alloc (.cells (wa 25 f) 54)).alloc (.cells (wa 5 (fun _ => 0)) 80)) 5 80 (fun _ => 0)
    rw [World.size_alloc, World.size_alloc] at this
    exact this
theorem KSn.step {f : Nat → Nat} {w wr : World} {j : Nat} (h : KSn f w wr j) : KSn f w (wr.setCell ⟨w.heap.size + 2, j % 5, none⟩ (.int .u64 ((suN f j (j % 5) ^^^ f j : Nat) : Int))) (j + 1) :=
  ⟨h.src.apart (by simp) _, h.out.apart (by simp) _, h.var.set (j % 5) _, h.low.setCell (by simp) _⟩

set_option maxRecDepth 100000 in
set_option maxHeartbeats 800000 in
theorem ksums_any (f : Nat → Nat) (w : World) (hf : W25 f) :
    Calls Try.prog 86 #[.agg (wa 25 f)] w fun e w' => e = .returned (.agg (wa 5 (co f))) ∧ Below w.heap.size w w' := by
  have HS := hid (KSn.start f w)
  have HA := hid ((Aw.new w 25 54 f).alloc (.cells (wa 5 (fun _ => 0)) 80))
  have HF := hid hf
  have HU := hid (fun j h x => suN_lt hf j h x)
  clear hf
  go_enter Try.func86, Try.ntmps86
  go_wp2_with (first
    | (refine step_load_wa rfl 54 _ rfl w.heap.size 25 54 53 f rfl HS.out.src Try.underlying54 kinf25 ?_))
  go_loopw [7] (fun i wr => ∃ j : Nat, j ≤ 25 ∧ i = .int .i64 j ∧ KSn f w wr j) (fun i _ => 25 - (intOf i).toNat)
  case atStart => exact ⟨0, by omega, rfl, HS.out⟩
  case round =>
    obtain ⟨j, hj, rfl, hI⟩ := hrel
    have HI := hid hI
    clear hI
    by_cases hlt : j < 25
    · have hi := fun w => kidx25 f hlt w
      have hc := HI.out.var.cell (j := j % 5) (Nat.mod_lt _ (by decide))
      have hfr := HI.out.var.free (j % 5)
      have hx := x64 (HU.out j (by omega) (j % 5)) (HF.out j hlt)
      have HT := hid HI.out.step
      generalize suN f j (j % 5) = s at *
      generalize f j = q at *
      obtain ⟨m, hm⟩ : ∃ m, j % 5 = m := ⟨_, rfl⟩
      rw [hm] at hc hfr HT
      have hm5 : m < 5 := by omega
      have hmm : (j : Int) % 5 = (m : Int) := by omega
      clear hm
      go_wp2
      go_roundw
      case rel => exact ⟨j + 1, by omega, by go_num, HT.out⟩
      case measure => simp [intOf]; omega
    · obtain rfl : j = 25 := by omega
      have HM := hid HI.out.var
      have HN := hid HI.out.out
      go_wp2_with (first
        | (refine step_load_wa rfl 80 _ rfl (w.heap.size + 2) 5 80 53 _ rfl HM.out Try.underlying80 kinf5 ?_)
        | (refine step_store_wa rfl 80 _ _ rfl (w.heap.size + 1) 5 80 _ _ rfl rfl HN.out kinf5 ?_))
      refine ret_wa rfl rfl Try.underlying80 kinf5 rfl (HI.out.out.row (suN f 25)) ⟨?_, below_setRow HI.out.low (by omega) _⟩
      rw [wa_ext (suN_all f)]
end Go.Proofs.Ythcjgjhoifnpjaa

namespace Go.Proofs.Ythcjgjhoifnpjaa
open Go.RowKit

/-! ### theta, some times -/
structure KPn (f g c e : Nat → Nat) (w wr : World) (b j n : Nat) : Prop where
  src : Aw wr w.heap.size 25 54 (mix n f g)
  out : Aw wr (w.heap.size + 1) 25 54 (fun _ => 0)
  sum : Aw wr b 5 80 c
  more : Aw wr (b + 1) 5 80 (mix j (fun _ => 0) e)
  far : w.heap.size + 2 ≤ b
  low : Below w.heap.size w wr
/-- What comes in, and what goes out. -/
structure P0 (f : Nat → Nat) (w wr : World) : Prop where
  src : Aw wr w.heap.size 25 54 f
  out : Aw wr (w.heap.size + 1) 25 54 (fun _ => 0)
  low : Below w.heap.size w wr
theorem P0.start (f : Nat → Nat) (w : World) : P0 f w ((w.alloc (.cells (wa 25 f) 54)).alloc (.cells (wa 25 (fun _ => 0)) 54)) := by
  refine ⟨(Aw.new w 25 54 f).alloc _, ?_, ((Below.refl _ _).alloc (Nat.le_refl _) _).alloc (by simp) _⟩
  have := Aw.new (w.alloc (.cells (wa 25 f) 54)) 25 54 (fun _ => 0)
  rw [World.size_alloc] at this
  exact this
theorem P0.on {f : Nat → Nat} {w wr w1 : World} (h : P0 f w wr) (hb : Below wr.heap.size wr w1) : P0 f w w1 := ⟨h.src.self hb, h.out.self hb, h.low.trans (hb.mono h.low.size)⟩
theorem KPn.start {f g c e : Nat → Nat} {w w1 : World} (h : P0 f w w1) : KPn f g c e w (((w1.alloc (.cells (wa 5 (fun _ => 0)) 80)).setRow w1.heap.size (wa 5 c)).alloc (.cells (wa 5 (fun _ => 0)) 80)) w1.heap.size 0 0 := by
  have hl := h.out.lt
  have h1 := ((Aw.new w1 5 80 (fun _ => 0)).row c).alloc (.cells (wa 5 (fun _ => 0)) 80)
  have h2 := Aw.new ((w1.alloc (.cells (wa 5 (fun _ => 0)) 80)).setRow w1.heap.size (wa 5 c)) 5 80 (fun _ => 0)
  rw [show ((w1.alloc (.cells (wa 5 (fun _ => 0)) 80)).setRow w1.heap.size (wa 5 c)).heap.size = w1.heap.size + 1 by simp [World.setRow]] at h2
  refine ⟨?_, ((h.out.alloc _).rowApart (by omega) _).alloc _, h1, ?_, by omega, (below_setRow (h.low.alloc h.low.size _) h.low.size _).alloc (by simp [World.setRow]; have := h.low.size; omega) _⟩
  · rw [mix_zero]; exact ((h.src.alloc _).rowApart (by omega) _).alloc _
  · rw [mix_zero]; exact h2
theorem KPn.stepE {f g c e : Nat → Nat} {w wr : World} {b j n : Nat} (h : KPn f g c e w wr b j n) {v : Int} {z : Nat} (hv : v = (z : Int)) (hz : z = e j) : KPn f g c e w (wr.setCell ⟨b + 1, j, none⟩ (.int .u64 v)) b (j + 1) n := by
  subst hv
  have := h.far
  refine ⟨h.src.apart (by simp; omega) _, h.out.apart (by simp; omega) _, h.sum.apart (by simp) _, ?_, h.far, h.low.setCell (by simp; omega) _⟩
  rw [← mix_step j _ e hz]
  exact h.more.set j z
theorem KPn.stepG {f g c e : Nat → Nat} {w wr : World} {b j n : Nat} (h : KPn f g c e w wr b j n) {v : Int} {z : Nat} (hv : v = (z : Int)) (hz : z = g n) : KPn f g c e w (wr.setCell ⟨w.heap.size, n, none⟩ (.int .u64 v)) b j (n + 1) := by
  subst hv
  have := h.far
  refine ⟨?_, h.out.apart (by simp) _, h.sum.apart (by simp; omega) _, h.more.apart (by simp; omega) _, h.far, h.low.setCell (by simp) _⟩
  rw [← mix_step n _ g hz]
  exact h.src.set n z
theorem KPn.drew {f g c e : Nat → Nat} {w wr : World} {b j n : Nat} (h : KPn f g c e w wr b j n) : KPn f g c e w wr.drew b j n := ⟨h.src.drew, h.out.drew, h.sum.drew, h.more.drew, h.far, h.low.drew⟩

set_option maxRecDepth 100000 in
set_option maxHeartbeats 1600000 in
theorem kspread_any (f : Nat → Nat) (k : Nat) (w : World) (hf : W25 f) (hk1 : 1 ≤ k) (hk : k ≤ 128) :
    Calls Try.prog 84 #[.agg (wa 25 f), .int .i64 (k : Int)] w fun e w' => e = .returned (.agg (wa 25 (ly f (ek k (co f))))) ∧ Below w.heap.size w w' := by
  have HS := hid (P0.start f w)
  have HC := hid (fun w => ksums_any f w hf)
  have HW := hid (co_w hf)
  have HE := hid (ek_w (co_w hf) k)
  have HF := hid hf
  have HK : Hid (∀ x, ek k (co f) x = co f ((x + 4 * k) % 5) ^^^ rt (co f ((x + k) % 5)) (k % 64)) := hid (fun _ => rfl)
  have HG : Hid (∀ i, ly f (ek k (co f)) i = f i ^^^ ek k (co f) (i % 5)) := hid (fun _ => rfl)
  generalize ly f (ek k (co f)) = g at *
  generalize ek k (co f) = e at *
  generalize co f = c at *
  clear hf
  go_enter Try.func84, Try.ntmps84
  go_wp2_with (first
    | (refine step_load_wa rfl 54 _ rfl w.heap.size 25 54 53 f rfl HS.out.src Try.underlying54 kinf25 ?_)
    | (go_at_call 86; (with_reducible refine (HC.out _).mono ?_); rintro e w1 ⟨rfl, hlow⟩; have HS1 := hid (HS.out.on hlow); have HP := hid (KPn.start (g := g) (c := c) (e := e) HS1.out); clear hlow)
    | (refine step_store_wa rfl 80 _ _ rfl w1.heap.size 5 80 (fun _ => 0) c rfl rfl (Aw.new w1 5 80 (fun _ => 0)) kinf5 ?_))
  go_loopw [11] (fun i wr => ∃ j : Nat, j ≤ 5 ∧ i = .int .i64 j ∧ KPn f g c e w wr w1.heap.size j 0) (fun i _ => 5 - (intOf i).toNat)
  case atStart => exact ⟨0, by omega, rfl, HP.out⟩
  case round =>
    obtain ⟨j, hj, rfl, hI⟩ := hrel
    have HI := hid hI
    clear hI
    by_cases hlt : j < 5
    · obtain ⟨m1, hm1⟩ : ∃ m, (j + 4 * k) % 5 = m := ⟨_, rfl⟩
      obtain ⟨m2, hm2⟩ : ∃ m, (j + k) % 5 = m := ⟨_, rfl⟩
      obtain ⟨k4, hk4⟩ : ∃ m, 4 * k = m := ⟨_, rfl⟩
      obtain ⟨a1, ha1⟩ : ∃ m, j + k4 = m := ⟨_, rfl⟩
      obtain ⟨a2, ha2⟩ : ∃ m, j + k = m := ⟨_, rfl⟩
      have e0 : IntKind.i64.wrap (4 * (k : Int)) = (k4 : Int) := by rw [IntKind.wrap_i64]; omega
      have e1 : IntKind.i64.wrap ((j : Int) + (k4 : Int)) = (a1 : Int) := by rw [IntKind.wrap_i64]; omega
      have e2 : IntKind.i64.wrap ((j : Int) + (k : Int)) = (a2 : Int) := by rw [IntKind.wrap_i64]; omega
      have e3 : (a1 : Int).tmod 5 = (m1 : Int) := by rw [Int.tmod_eq_emod_of_nonneg (by omega)]; omega
      have e4 : (a2 : Int).tmod 5 = (m2 : Int) := by rw [Int.tmod_eq_emod_of_nonneg (by omega)]; omega
      have l1 : m1 < 5 := by omega
      have l2 : m2 < 5 := by omega
      have c1 := HI.out.drew.sum.cell l1
      have c2 := HI.out.drew.sum.cell l2
      have c3 := HI.out.drew.more.cell hlt
      rw [mix_here] at c3
      have hfr := HI.out.drew.more.free j
      have HKj := hid (HK.out j)
      rw [hm1, hm2] at HKj
      have b1 := HW.out m1 l1
      have b2 := HW.out m2 l2
      have b3 := rt_lt (m := k % 64) b2
      have HR := hid (fun w => rot_to (m := k % 64) (k := (k : Int)) b2 (by omega) w)
      have HX := hid (x64 b1 b3)
      have HT := hid (fun v z hv hz => HI.out.drew.stepE (v := v) (z := z) hv hz)
      generalize c m1 = s1 at *
      generalize c m2 = s2 at *
      generalize rt s2 (k % 64) = r at *
      have n1 : (m1 : Int) < 5 := by omega
      have n2 : (m2 : Int) < 5 := by omega
      have n3 : (j : Int) < 5 := by omega
      have p1 : (0 : Int) ≤ (m1 : Int) := by omega
      have p2 : (0 : Int) ≤ (m2 : Int) := by omega
      have p3 : (0 : Int) ≤ (j : Int) := by omega
      clear hm1 hm2 ha1 ha2 hk4
      go_wp2
      refine region_tail 18 (by kernel_rfl) (by kernel_rfl) ?_
      simp only [List.take_succ_cons, List.take_zero, List.drop_succ_cons, List.drop_zero]
      generalize wr.drew = w2 at *
      repeat still_step
      still_call (HR.out _)
      repeat still_step
      refine wpStill_nil ?_
      go_wp2
      go_roundw
      case rel => exact ⟨j + 1, by omega, by go_num, HT.out _ _ HX.out HKj.out.symm⟩
      case measure => simp [intOf]; omega
    · obtain rfl : j = 5 := by omega
      go_wp2
      go_loopw [33] (fun i wr => ∃ n : Nat, n ≤ 25 ∧ i = .int .i64 n ∧ KPn f g c e w wr w1.heap.size 5 n) (fun i _ => 25 - (intOf i).toNat)
      case atStart => exact ⟨0, by omega, rfl, HI.out⟩
      case round =>
        obtain ⟨n, hn, rfl, hI⟩ := hrel
        have HI2 := hid hI
        clear hI
        by_cases hlt : n < 25
        · obtain ⟨m, hm⟩ : ∃ m, n % 5 = m := ⟨_, rfl⟩
          have e1 : (n : Int) % 5 = (m : Int) := by omega
          have l1 : m < 5 := by omega
          have c1 := HI2.out.more.cell l1
          rw [mix_all (Nat.le_refl 5) m l1] at c1
          have c2 := HI2.out.src.cell hlt
          rw [mix_here] at c2
          have hfr := HI2.out.src.free n
          have HGn := hid (HG.out n)
          rw [hm] at HGn
          have HX := hid (x64 (HF.out n hlt) (HE.out m l1))
          have HT := hid (fun v z hv hz => HI2.out.stepG (v := v) (z := z) hv hz)
          generalize f n = s1 at *
          generalize e m = s2 at *
          clear hm
          go_wp2
          go_region
          go_wp2
          go_roundw
          case rel => exact ⟨n + 1, by omega, by go_num, (HT.out _ _ HX.out HGn.out.symm).drew⟩
          case measure => simp [intOf]; omega
        · obtain rfl : n = 25 := by omega
          have HM := hid HI2.out.src
          have HN := hid HI2.out.out
          go_wp2_with (first
            | (refine step_load_wa rfl 54 _ rfl w.heap.size 25 54 53 _ rfl HM.out Try.underlying54 kinf25 ?_)
            | (refine step_store_wa rfl 54 _ _ rfl (w.heap.size + 1) 25 54 _ _ rfl rfl HN.out kinf25 ?_))
          refine ret_wa rfl rfl Try.underlying54 kinf25 rfl (HI2.out.out.row (mix 25 f g)) ⟨?_, below_setRow HI2.out.low (by omega) _⟩
          rw [wa_ext (mix_all (Nat.le_refl 25))]
end Go.Proofs.Ythcjgjhoifnpjaa

namespace Go.Proofs.Ythcjgjhoifnpjaa
open Go.RowKit

set_option maxRecDepth 100000 in
theorem ktheta_any (f : Nat → Nat) (w : World) (hf : W25 f) :
    Calls Try.prog 77 #[.agg (wa 25 f)] w fun e w' => e = .returned (.agg (wa 25 (th f))) ∧ Below w.heap.size w w' := by
  have HS := hid (P0.start f w)
  have HC : Hid (∀ w, Calls Try.prog 84 #[.agg (wa 25 f), .int .i64 1] w fun e w' => e = .returned (.agg (wa 25 (th f))) ∧ Below w.heap.size w w') := hid (fun w => kspread_any f 1 w hf (by omega) (by omega))
  generalize th f = g at *
  clear hf
  go_enter Try.func77, Try.ntmps77
  go_wp2_with (first
    | (refine step_load_wa rfl 54 _ rfl w.heap.size 25 54 53 f rfl HS.out.src Try.underlying54 kinf25 ?_)
    | (go_at_call 84; (with_reducible refine (HC.out _).mono ?_); rintro e w1 ⟨rfl, hlow⟩; have HS1 := hid (HS.out.on hlow); clear hlow)
    | (refine step_store_wa rfl 54 _ _ rfl (w.heap.size + 1) 25 54 _ _ rfl rfl HS1.out.out kinf25 ?_))
  exact ret_wa rfl rfl Try.underlying54 kinf25 rfl (HS1.out.out.row g) ⟨rfl, below_setRow HS1.out.low (by omega) _⟩

/-- What comes in, what goes out, and a variable beside. -/
structure V3 (f g : Nat → Nat) (w wr : World) : Prop where
  src : Aw wr w.heap.size 25 54 f
  out : Aw wr (w.heap.size + 1) 25 54 (fun _ => 0)
  var : Aw wr (w.heap.size + 2) 25 54 g
  low : Below w.heap.size w wr
theorem V3.start (f g : Nat → Nat) (w : World) : V3 f g w (((w.alloc (.cells (wa 25 f) 54)).alloc (.cells (wa 25 (fun _ => 0)) 54)).alloc (.cells (wa 25 g) 54)) := by
  have h := P0.start f w
  refine ⟨h.src.alloc _, h.out.alloc _, ?_, h.low.alloc (by simp; omega) _⟩
  have := Aw.new ((w.alloc (.cells (wa 25 f) 54)).alloc (.cells (wa 25 (fun _ => 0)) 54)) 25 54 g
  rw [World.size_alloc, World.size_alloc] at this
  exact this
theorem V3.on {f g : Nat → Nat} {w wr w1 : World} (h : V3 f g w wr) (hb : Below wr.heap.size wr w1) : V3 f g w w1 := ⟨h.src.self hb, h.out.self hb, h.var.self hb, h.low.trans (hb.mono h.low.size)⟩
theorem V3.drew {f g : Nat → Nat} {w wr : World} (h : V3 f g w wr) : V3 f g w wr.drew := ⟨h.src.drew, h.out.drew, h.var.drew, h.low.drew⟩
theorem V3.ext {f g g' : Nat → Nat} {w wr : World} (h : V3 f g w wr) (e : ∀ i, i < 25 → g i = g' i) : V3 f g' w wr := ⟨h.src, h.out, h.var.ext e, h.low⟩
theorem V3.set {f g : Nat → Nat} {w wr : World} (h : V3 f g w wr) (j z : Nat) : V3 f (upd g j z) w (wr.setCell ⟨w.heap.size + 2, j, none⟩ (.int .u64 (z : Int))) :=
  ⟨h.src.apart (by simp) _, h.out.apart (by simp) _, h.var.set j z, h.low.setCell (by simp) _⟩
theorem V3.row {f g : Nat → Nat} {w wr : World} (h : V3 f g w wr) (k : Nat → Nat) : V3 f k w (wr.setRow (w.heap.size + 2) (wa 25 k)) :=
  ⟨h.src.rowApart (by omega) _, h.out.rowApart (by omega) _, h.var.row k, below_setRow h.low (by omega) _⟩
theorem V3.mixed {f g k : Nat → Nat} {n : Nat} {w wr : World} (h : V3 f (mix n k g) w wr) {v : Int} {z : Nat} (hv : v = (z : Int)) (hz : z = g n) : V3 f (mix (n + 1) k g) w (wr.setCell ⟨w.heap.size + 2, n, none⟩ (.int .u64 v)) := by
  subst hv
  rw [← mix_step n k g hz]
  exact h.set n z
theorem V3.mixed_at {f g k p : Nat → Nat} {n j : Nat} {w wr : World} (h : V3 f (mip p n k g) w wr) {v : Int} {z : Nat} (hp : ∀ i, i < 25 → (p i = n ↔ i = j)) (hv : v = (z : Int)) (hz : z = g j) : V3 f (mip p (n + 1) k g) w (wr.setCell ⟨w.heap.size + 2, j, none⟩ (.int .u64 v)) := by
  subst hv
  exact (h.set j z).ext (mip_step hp hz)

/-! ### move -/
set_option maxRecDepth 100000 in
set_option maxHeartbeats 1600000 in
theorem kmove_any (f : Nat → Nat) (w : World) (hf : W25 f) :
    Calls Try.prog 76 #[.agg (wa 25 f)] w fun e w' => e = .returned (.agg (wa 25 (mo tun f))) ∧ Below w.heap.size w w' := by
  have HS := hid (V3.start f (fun _ => 0) w)
  have HC := hid kturns_any
  have HF := hid hf
  have HT := hid tun_lt
  have HG := hid (fun n h => mo_at tun f (n := n) h)
  have HD := hid (fun n h => (src_dst n h).2.1)
  have HA := hid (fun n h => src_at (n := n) h)
  generalize mo tun f = g at *
  generalize tun = t at *
  clear hf
  go_enter Try.func76, Try.ntmps76
  go_wp2_with (first
    | (go_at_call 81; (with_reducible refine (HC.out _).mono ?_); rintro e w1 ⟨rfl, hlow⟩; have HS1 := hid (HS.out.on hlow); clear hlow))
  go_loopw [7] (fun i wr => ∃ n : Nat, n ≤ 25 ∧ i = .int .i64 n ∧ V3 f (mip src n (fun _ => 0) g) w wr) (fun i _ => 25 - (intOf i).toNat)
  case atStart => exact ⟨0, by omega, rfl, by rw [mip_zero]; exact HS1.out⟩
  case round =>
    obtain ⟨n, hn, rfl, hI⟩ := hrel
    have HI := hid hI
    clear hI
    by_cases hlt : n < 25
    · have hi := fun w => kidxT t hlt w
      have ht := HT.out n hlt
      have c1 := HI.out.drew.src.cell hlt
      have hd := HD.out n hlt
      have c2 := HI.out.drew.var.cell hd
      have hfr := HI.out.drew.var.free (dst n)
      have b1 := HF.out n hlt
      have HR := hid (fun w => rot_to (m := t n) (k := (t n : Int)) b1 (by omega) w)
      have HP := hid (fun w => ktarget_any n w hlt)
      have HGn := hid (HG.out n hlt)
      have HU := hid (fun v z hv hz => HI.out.drew.mixed_at (v := v) (z := z) (HA.out n hlt) hv hz)
      generalize rt (f n) (t n) = r at *
      generalize f n = x at *
      generalize t n = y at *
      generalize dst n = d at *
      generalize mip src n (fun _ => 0) g d = z0 at *
      have n3 : (n : Int) < 25 := by omega
      have p3 : (0 : Int) ≤ (n : Int) := by omega
      have n4 : (d : Int) < 25 := by omega
      have p4 : (0 : Int) ≤ (d : Int) := by omega
      go_wp2
      refine region_tail 8 (by kernel_rfl) (by kernel_rfl) ?_
      simp only [List.take_succ_cons, List.take_zero, List.drop_succ_cons, List.drop_zero]
      generalize wr.drew = w2 at *
      repeat still_step
      still_call (HP.out _)
      repeat still_step
      still_call (HR.out _)
      repeat still_step
      refine wpStill_nil ?_
      go_wp2
      go_roundw
      case rel => exact ⟨n + 1, by omega, by go_num, HU.out _ _ rfl HGn.out.symm⟩
      case measure => simp [intOf]; omega
    · obtain rfl : n = 25 := by omega
      have HM := hid HI.out.var
      have HN := hid HI.out.out
      go_wp2_with (first
        | (refine step_load_wa rfl 54 _ rfl (w.heap.size + 2) 25 54 53 _ rfl HM.out Try.underlying54 kinf25 ?_)
        | (refine step_store_wa rfl 54 _ _ rfl (w.heap.size + 1) 25 54 _ _ rfl rfl HN.out kinf25 ?_))
      refine ret_wa rfl rfl Try.underlying54 kinf25 rfl (HI.out.out.row _) ⟨?_, below_setRow HI.out.low (by omega) _⟩
      rw [wa_ext (mip_all (fun i hi => (src_dst i hi).2.2.2))]

end Go.Proofs.Ythcjgjhoifnpjaa

namespace Go.Proofs.Ythcjgjhoifnpjaa
open Go.RowKit

/-! ### chi -/
theorem andnot64 {a b : Nat} (ha : a < 2 ^ 64) (hb : b < 2 ^ 64) : bits .andNot .u64 (a : Int) (b : Int) = ((a ^^^ (a &&& b) : Nat) : Int) := by
  have h1 : (BitVec.ofInt 64 (a : Int)).toNat = a := by
    rw [BitVec.ofInt_natCast, BitVec.toNat_ofNat]; exact Nat.mod_eq_of_lt (by omega)
  have h2 : (BitVec.ofInt 64 (b : Int)).toNat = b := by
    rw [BitVec.ofInt_natCast, BitVec.toNat_ofNat]; exact Nat.mod_eq_of_lt (by omega)
  have hx : a ^^^ (a &&& b) < 2 ^ 64 := Nat.xor_lt_two_pow ha (Nat.and_lt_two_pow _ hb)
  show IntKind.u64.wrap ((BitVec.ofInt 64 (a : Int) &&& ~~~ BitVec.ofInt 64 (b : Int)).toNat : Int) = _
  rw [BitVec.toNat_and, BitVec.toNat_not, h1, h2, andnot_xor a b 64 ha, Nat.mod_eq_of_lt hb, IntKind.wrap_u64]
  rw [andnot_xor a b 64 ha, Nat.mod_eq_of_lt hb] at hx
  omega
theorem kplace_to {x y n : Nat} (hx : x < 1000) (hy : y < 1000) (h : x % 5 + 5 * (y % 5) = n) (w : World) :
    Calls Try.prog 80 #[.int .i64 (x : Int), .int .i64 (y : Int)] w fun e w' => e = .returned (.int .i64 (n : Nat)) ∧ w' = w := by
  have := kplace_any x y w (by omega) (by omega)
  rwa [h] at this

set_option maxRecDepth 100000 in
set_option maxHeartbeats 3200000 in
theorem kchi_any (f : Nat → Nat) (w : World) (hf : W25 f) :
    Calls Try.prog 75 #[.agg (wa 25 f)] w fun e w' => e = .returned (.agg (wa 25 (ch f))) ∧ Below w.heap.size w w' := by
  have HP0 := hid (P0.start f w)
  have HS : Hid (V3 f f w ((((w.alloc (.cells (wa 25 f) 54)).alloc (.cells (wa 25 (fun _ => 0)) 54)).alloc (.cells (wa 25 (fun _ => 0)) 54)).setRow (w.heap.size + 2) (wa 25 f))) := hid ((V3.start f (fun _ => 0) w).row f)
  have HZ := hid (V3.start f (fun _ => 0) w)
  have HF := hid hf
  have HG := hid (fun x y hx => ch_at f (x := x) (y := y) hx)
  generalize ch f = g at *
  clear hf
  go_enter Try.func75, Try.ntmps75
  go_wp2_with (first
    | (refine step_load_wa rfl 54 _ rfl w.heap.size 25 54 53 f rfl HP0.out.src Try.underlying54 kinf25 ?_)
    | (refine step_store_wa rfl 54 _ _ rfl (w.heap.size + 2) 25 54 _ _ rfl rfl HZ.out.var kinf25 ?_))
  go_loopw [7] (fun i wr => ∃ y : Nat, y ≤ 5 ∧ i = .int .i64 y ∧ V3 f (mix (5 * y) f g) w wr) (fun i _ => 5 - (intOf i).toNat)
  case atStart => exact ⟨0, by omega, rfl, by rw [mix_zero]; exact HS.out⟩
  case round =>
    obtain ⟨y, hy, rfl, hI⟩ := hrel
    have HI := hid hI
    clear hI
    by_cases hlt : y < 5
    · obtain ⟨wz, rfl⟩ : ∃ wz, wz = wr := ⟨_, rfl⟩
      have hlt8 : (y : Int) < 5 := by omega
      go_wp2
      go_loopw [10] (fun i wr => ∃ x : Nat, x ≤ 5 ∧ i = .int .i64 x ∧ V3 f (mix (x + 5 * y) f g) w wr) (fun i _ => 5 - (intOf i).toNat)
      case atStart => exact ⟨0, by omega, rfl, by rw [Nat.zero_add]; exact HI.out⟩
      case round =>
        obtain ⟨x, hx, rfl, hI⟩ := hrel
        have HI2 := hid hI
        clear hI
        by_cases hltx : x < 5
        · obtain ⟨n, hn⟩ : ∃ n, x + 5 * y = n := ⟨_, rfl⟩
          obtain ⟨n1, hn1⟩ : ∃ n, (x + 1) % 5 + 5 * y = n := ⟨_, rfl⟩
          obtain ⟨n2, hn2⟩ : ∃ n, (x + 2) % 5 + 5 * y = n := ⟨_, rfl⟩
          obtain ⟨x1, hx1⟩ : ∃ n, x + 1 = n := ⟨_, rfl⟩
          obtain ⟨x2, hx2⟩ : ∃ n, x + 2 = n := ⟨_, rfl⟩
          have q0 : n < 25 := by omega
          have q1 : n1 < 25 := by omega
          have q2 : n2 < 25 := by omega
          have e1 : IntKind.i64.wrap ((x : Int) + 1) = (x1 : Int) := by rw [IntKind.wrap_i64]; omega
          have e2 : IntKind.i64.wrap ((x : Int) + 2) = (x2 : Int) := by rw [IntKind.wrap_i64]; omega
          have HI3 := HI2.out.drew
          rw [hn] at HI3
          have c1 := HI3.src.cell q1
          have c2 := HI3.src.cell q2
          have c3 := HI3.var.cell q0
          rw [mix_here] at c3
          have hfr := HI3.var.free n
          have HGn := hid (HG.out x y hltx)
          rw [hn, hn1, hn2] at HGn
          have b0 := HF.out n q0
          have b1 := HF.out n1 q1
          have b2 := HF.out n2 q2
          have HU := hid (fun v z hv hz => HI3.mixed (v := v) (z := z) hv hz)
          have HP1 := hid (fun w => kplace_to (x := x) (y := y) (n := n) (by omega) (by omega) (by omega) w)
          have HP2 := hid (fun w => kplace_to (x := x2) (y := y) (n := n2) (by omega) (by omega) (by omega) w)
          have HP3 := hid (fun w => kplace_to (x := x1) (y := y) (n := n1) (by omega) (by omega) (by omega) w)
          have HX : Hid (bits .xor .u64 (f n : Int) (bits .andNot .u64 (f n2 : Int) (f n1 : Int)) = ((f n ^^^ (f n2 ^^^ (f n2 &&& f n1)) : Nat) : Int)) := hid (by
            rw [andnot64 b2 b1, x64 b0 (Nat.xor_lt_two_pow b2 (Nat.and_lt_two_pow _ b1))])
          have HY : Hid ((x1 : Nat) = x + 1) := hid hx1.symm
          have HYn : Hid (n + 1 = x1 + 5 * y) := hid (by omega)
          generalize f n = s0 at *
          generalize f n1 = s1 at *
          generalize f n2 = s2 at *
          have r0 : (n : Int) < 25 := by omega
          have r1 : (n1 : Int) < 25 := by omega
          have r2 : (n2 : Int) < 25 := by omega
          have p0 : (0 : Int) ≤ (n : Int) := by omega
          have p1 : (0 : Int) ≤ (n1 : Int) := by omega
          have p2 : (0 : Int) ≤ (n2 : Int) := by omega
          clear hn hn1 hn2 hx1 hx2 HI3
          go_wp2
          refine region_tail 20 (by kernel_rfl) (by kernel_rfl) ?_
          simp only [List.take_succ_cons, List.take_zero, List.drop_succ_cons, List.drop_zero]
          generalize wr.drew = w2 at *
          repeat still_step
          still_call (HP1.out _)
          repeat still_step
          still_call (HP2.out _)
          repeat still_step
          still_call (HP3.out _)
          repeat still_step
          refine wpStill_nil ?_
          go_wp2
          go_roundw
          case rel => exact ⟨x1, by have := HY.out; omega, rfl, by rw [← HYn.out]; exact HU.out _ _ HX.out HGn.out.symm⟩
          case measure => have := HY.out; simp [intOf]; omega
        · obtain rfl : x = 5 := by omega
          go_wp2
          go_roundw
          case rel => exact ⟨y + 1, by omega, by go_num, by rw [show 5 * (y + 1) = 5 + 5 * y by omega]; exact HI2.out⟩
          case measure => simp [intOf]; omega
    · obtain rfl : y = 5 := by omega
      have HM := hid HI.out.var
      have HN := hid HI.out.out
      go_wp2_with (first
        | (refine step_load_wa rfl 54 _ rfl (w.heap.size + 2) 25 54 53 _ rfl HM.out Try.underlying54 kinf25 ?_)
        | (refine step_store_wa rfl 54 _ _ rfl (w.heap.size + 1) 25 54 _ _ rfl rfl HN.out kinf25 ?_))
      refine ret_wa rfl rfl Try.underlying54 kinf25 rfl (HI.out.out.row _) ⟨?_, below_setRow HI.out.low (by omega) _⟩
      rw [wa_ext (mix_all (n := 5 * 5) (m := 25) (by omega))]
end Go.Proofs.Ythcjgjhoifnpjaa

namespace Go.Proofs.Ythcjgjhoifnpjaa
open Go.RowKit

theorem P0.ext {f g : Nat → Nat} {w wr : World} (h : P0 f w wr) (e : ∀ i, i < 25 → f i = g i) : P0 g w wr := ⟨h.src.ext e, h.out, h.low⟩
theorem P0.drew {f : Nat → Nat} {w wr : World} (h : P0 f w wr) : P0 f w wr.drew := ⟨h.src.drew, h.out.drew, h.low.drew⟩
theorem P0.row {f : Nat → Nat} {w wr : World} (h : P0 f w wr) (g : Nat → Nat) : P0 g w (wr.setRow w.heap.size (wa 25 g)) := ⟨h.src.row g, h.out.rowApart (by omega) _, below_setRow h.low (by omega) _⟩
theorem io_upd (m : Nat) (f : Nat → Nat) {z : Nat} (h : z = f 0 ^^^ m) : upd f 0 z = io m f := funext fun i => by
  subst h; unfold upd io; rfl
theorem P0.mark {f : Nat → Nat} {w wr : World} (h : P0 f w wr) (m : Nat) {v : Int} (hv : v = ((f 0 ^^^ m : Nat) : Int)) : P0 (io m f) w (wr.setCell ⟨w.heap.size, 0, none⟩ (.int .u64 v)) := by
  subst hv
  rw [← io_upd m f rfl]
  exact ⟨h.src.set 0 _, h.out.apart (by simp) _, h.low.setCell (by simp) _⟩

theorem tms_lit : (#[.int .i64 1, .int .i64 2, .int .i64 4, .int .i64 8, .int .i64 16, .int .i64 32, .int .i64 128] : Array Value) = ia 7 tms := by kernel_rfl
/-! ### rounds -/
set_option maxRecDepth 100000 in
set_option maxHeartbeats 1600000 in
theorem kpermute_any (f : Nat → Nat) (w : World) (hf : W25 f) :
    Calls Try.prog 72 #[.agg (wa 25 f)] w fun e w' => e = .returned (.agg (wa 25 (pm tun mkf 24 f))) ∧ Below w.heap.size w w' := by
  have HS := hid (P0.start f w)
  have HM := hid kmarks_any
  have HC1 := hid (fun (g : Nat → Nat) (h : W25 g) w => ktheta_any g w h)
  have HC2 := hid (fun (g : Nat → Nat) (h : W25 g) w => kmove_any g w h)
  have HC3 := hid (fun (g : Nat → Nat) (h : W25 g) w => kchi_any g w h)
  have HL := hid mkf_lt
  have HW := hid (fun n h => pm_w (t := tun) mkf_lt hf n h)
  have HZ : Hid (pm tun mkf 0 f = f) := hid rfl
  have HN : Hid (∀ n, pm tun mkf (n + 1) f = io (mkf n) (ch (mo tun (th (pm tun mkf n f))))) := hid (fun _ => rfl)
  clear hf
  go_enter Try.func72, Try.ntmps72
  go_wp2_with (first
    | (go_at_call 74; (with_reducible refine (HM.out _).mono ?_); rintro e w1 ⟨rfl, hlow⟩; have HS1 := hid (HS.out.on hlow); clear hlow))
  go_loopw [6] (fun i wr => ∃ j : Nat, j ≤ 24 ∧ i = .int .i64 j ∧ P0 (pm tun mkf j f) w wr) (fun i _ => 24 - (intOf i).toNat)
  case atStart => exact ⟨0, by omega, rfl, by rw [HZ.out]; exact HS1.out⟩
  case round =>
    obtain ⟨j, hj, rfl, hI⟩ := hrel
    have HI := hid hI
    clear hI
    by_cases hlt : j < 24
    · have hi := fun w => kidx24 mkf hlt w
      have hm := HL.out j hlt
      have h0 := HW.out j (by omega)
      have h1 := th_w h0
      have h2 := mo_w (t := tun) h1
      have h3 := ch_w h2
      have K1 := hid (HC1.out _ h0)
      have K2 := hid (HC2.out _ h1)
      have K3 := hid (HC3.out _ h2)
      have HNj := hid (HN.out j)
      generalize ch (mo tun (th (pm tun mkf j f))) = g3 at *
      generalize mo tun (th (pm tun mkf j f)) = g2 at *
      generalize th (pm tun mkf j f) = g1 at *
      generalize pm tun mkf j f = g0 at *
      generalize mkf j = m at *
      have HX := hid (x64 (h3 0 (by omega)) hm)
      clear h0 h1 h2 h3
      go_wp2_with (first
        | (refine step_load_wa rfl 54 _ rfl w.heap.size 25 54 53 g0 rfl HI.out.src Try.underlying54 kinf25 ?_)
        | (go_at_call 77; (with_reducible refine (K1.out _).mono ?_); rintro e w1 ⟨rfl, hlow⟩; have HS1 := hid (HI.out.on hlow); clear hlow)
        | (go_at_call 76; (with_reducible refine (K2.out _).mono ?_); rintro e w2 ⟨rfl, hlow⟩; have HS2 := hid (HS1.out.on hlow); clear hlow)
        | (go_at_call 75; (with_reducible refine (K3.out _).mono ?_); rintro e w3 ⟨rfl, hlow⟩; have HS3 := hid (HS2.out.on hlow); have HS4 := hid (HS3.out.row g3); have c0 := HS4.out.src.cell (j := 0) (by omega); have f0 := HS4.out.src.free 0; clear hlow)
        | (refine step_store_wa rfl 54 _ _ rfl w.heap.size 25 54 _ _ rfl rfl HS3.out.src kinf25 ?_))
      go_roundw
      case rel => exact ⟨j + 1, by omega, by go_num, by rw [HNj.out]; exact HS4.out.mark m HX.out⟩
      case measure => simp [intOf]; omega
    · obtain rfl : j = 24 := by omega
      have HM := hid HI.out.src
      have HN := hid HI.out.out
      go_wp2_with (first
        | (refine step_load_wa rfl 54 _ rfl w.heap.size 25 54 53 _ rfl HM.out Try.underlying54 kinf25 ?_)
        | (refine step_store_wa rfl 54 _ _ rfl (w.heap.size + 1) 25 54 _ _ rfl rfl HN.out kinf25 ?_))
      exact ret_wa rfl rfl Try.underlying54 kinf25 rfl (HI.out.out.row _) ⟨rfl, below_setRow HI.out.low (by omega) _⟩

/-- .. and a row of marks beside. -/
structure P4 (f : Nat → Nat) (b : Nat) (w wr : World) : Prop extends P0 f w wr where
  mks : Aw wr b 24 86 mkf
  far : w.heap.size + 2 ≤ b
theorem P4.start {f : Nat → Nat} {w w1 : World} (h : P0 f w w1) : P4 f w1.heap.size w ((w1.alloc (.cells (wa 24 (fun _ => 0)) 86)).setRow w1.heap.size (wa 24 mkf)) := by
  have hl := h.out.lt
  exact ⟨⟨(h.src.alloc _).rowApart (by omega) _, (h.out.alloc _).rowApart (by omega) _, below_setRow (h.low.alloc h.low.size _) h.low.size _⟩, (Aw.new w1 24 86 (fun _ => 0)).row mkf, by omega⟩
theorem P4.on {f : Nat → Nat} {b : Nat} {w wr w1 : World} (h : P4 f b w wr) (hb : Below wr.heap.size wr w1) : P4 f b w w1 := ⟨h.toP0.on hb, h.mks.self hb, h.far⟩
theorem P4.drew {f : Nat → Nat} {b : Nat} {w wr : World} (h : P4 f b w wr) : P4 f b w wr.drew := ⟨h.toP0.drew, h.mks.drew, h.far⟩
theorem P4.row {f : Nat → Nat} {b : Nat} {w wr : World} (h : P4 f b w wr) (g : Nat → Nat) : P4 g b w (wr.setRow w.heap.size (wa 25 g)) := ⟨h.toP0.row g, h.mks.rowApart (by have := h.far; omega) _, h.far⟩
theorem P4.mark {f : Nat → Nat} {b : Nat} {w wr : World} (h : P4 f b w wr) (m : Nat) {v : Int} (hv : v = ((f 0 ^^^ m : Nat) : Int)) : P4 (io m f) b w (wr.setCell ⟨w.heap.size, 0, none⟩ (.int .u64 v)) :=
  ⟨h.toP0.mark m hv, h.mks.apart (by have := h.far; simp; omega) _, h.far⟩

end Go.Proofs.Ythcjgjhoifnpjaa
