import Derived.Test.YtfgbcohmbbjagaaKcb
namespace Go.Proofs.Ytfgbcohmbbjagaa
open Go.RowKit

theorem or64 {a b : Nat} (ha : a < 2 ^ 64) (hb : b < 2 ^ 64) : bits .or .u64 (a : Int) (b : Int) = ((a ||| b : Nat) : Int) := bits_or_u64_nat a b (by omega) (by omega)
theorem mkP_next (i j q : Nat) (h : rwN (7 * i + j) % 2 = q) : mkP i (j + 1) = mkP i j ||| q * 2 ^ (2 ^ j - 1) := by rw [← h]; rfl

set_option maxRecDepth 100000 in
set_option maxHeartbeats 4000000 in
theorem marks_any (w : World) :
    Calls Try.prog 23 #[] w fun e w' => e = .returned (.agg (wa 24 mkf)) ∧ Below w.heap.size w w' := by
  have HS := hid (MInv.start w)
  have HR := hid rwN_lt
  have HN : Hid (∀ t, rwN (t + 1) = nxt (rwN t)) := hid (fun _ => rfl)
  have HL := hid mkP_lt
  go_enter Try.func23, Try.ntmps23
  go_wp2
  go_loopw [2, 5] (fun r i wr => ∃ t : Nat, t ≤ 24 ∧ i = .int .i64 t ∧ r = .int .u8 (rwN (7 * t) : Nat) ∧ MInv w wr t 0) (fun _ i _ => 24 - (intOf i).toNat)
  case atStart => exact ⟨0, by omega, rfl, rfl, HS.out⟩
  case round =>
    obtain ⟨t, ht, rfl, rfl, hI⟩ := hrel
    have HI := hid hI
    clear hI
    by_cases hlt : t < 24
    · obtain ⟨wz, rfl⟩ : ∃ wz, wz = wr := ⟨_, rfl⟩
      have hlt8 : (t : Int) < 24 := by omega
      go_wp2
      go_loopw [2, 8] (fun r k wr => ∃ j : Nat, j ≤ 7 ∧ k = .int .i64 j ∧ r = .int .u8 (rwN (7 * t + j) : Nat) ∧ MInv w wr t j) (fun _ k _ => 7 - (intOf k).toNat)
      case atStart => exact ⟨0, by omega, rfl, rfl, HI.out⟩
      case round =>
        obtain ⟨j, hj, rfl, rfl, hI⟩ := hrel
        have HI2 := hid hI
        clear hI
        by_cases hltj : j < 7
        · have hr := HR.out (7 * t + j)
          have HQ := hid (HN.out (7 * t + j))
          have hc := HI2.out.var.cell hlt
          rw [mkN_here] at hc
          have hf := HI2.out.var.free t
          have hx := HL.out t hlt j (by omega)
          have ha := and8_one hr
          have HP := hid (mkP_next t j)
          have HT : Hid (∀ (v : Int) (z : Nat), v = (z : Int) → z = mkP t (j + 1) → MInv w (wr.setCell ⟨w.heap.size + 1, t, none⟩ (.int .u64 v)).drew t (j + 1)) := hid (fun v z hv hz => by subst hv; exact (HI2.out.step hz).drew)
          have HD := hid (fun w => next_any (rwN (7 * t + j)) w hr)
          rw [← HQ.out] at HD
          generalize hrr : rwN (7 * t + j) = r at *
          generalize mkP t j = x at *
          obtain ⟨q, hq⟩ : ∃ q, r % 2 = q := ⟨_, rfl⟩
          have hq2 : q = 0 ∨ q = 1 := by omega
          have HZ := hid (HP.out q hq)
          rw [hq] at ha
          clear hrr HQ HP hq
          have hj7 : j = 0 ∨ j = 1 ∨ j = 2 ∨ j = 3 ∨ j = 4 ∨ j = 5 ∨ j = 6 := by omega
          rcases hq2 with rfl | rfl <;> rcases hj7 with rfl | rfl | rfl | rfl | rfl | rfl | rfl
          · have HV : Hid (bits .or .u64 (x : Int) 0 = ((x ||| 0 : Nat) : Int)) := hid (or64 (b := 0) hx (by omega))
            have HW : Hid (x ||| 0 = mkP t (0 + 1)) := hid (HZ.out).symm
            go_wp2
            go_region
            go_wp2_with (first | (go_at_call 33; (with_reducible refine (HD.out _).mono ?_); rintro e w1 ⟨rfl, rfl⟩))
            go_roundw
            case rel => exact ⟨1, by omega, rfl, rfl, HT.out _ _ HV.out HW.out⟩
            case measure => simp [intOf]
          · have HV : Hid (bits .or .u64 (x : Int) 0 = ((x ||| 0 : Nat) : Int)) := hid (or64 (b := 0) hx (by omega))
            have HW : Hid (x ||| 0 = mkP t (1 + 1)) := hid (HZ.out).symm
            go_wp2
            go_region
            go_wp2_with (first | (go_at_call 33; (with_reducible refine (HD.out _).mono ?_); rintro e w1 ⟨rfl, rfl⟩))
            go_roundw
            case rel => exact ⟨2, by omega, rfl, rfl, HT.out _ _ HV.out HW.out⟩
            case measure => simp [intOf]
          · have HV : Hid (bits .or .u64 (x : Int) 0 = ((x ||| 0 : Nat) : Int)) := hid (or64 (b := 0) hx (by omega))
            have HW : Hid (x ||| 0 = mkP t (2 + 1)) := hid (HZ.out).symm
            go_wp2
            go_region
            go_wp2_with (first | (go_at_call 33; (with_reducible refine (HD.out _).mono ?_); rintro e w1 ⟨rfl, rfl⟩))
            go_roundw
            case rel => exact ⟨3, by omega, rfl, rfl, HT.out _ _ HV.out HW.out⟩
            case measure => simp [intOf]
          · have HV : Hid (bits .or .u64 (x : Int) 0 = ((x ||| 0 : Nat) : Int)) := hid (or64 (b := 0) hx (by omega))
            have HW : Hid (x ||| 0 = mkP t (3 + 1)) := hid (HZ.out).symm
            go_wp2
            go_region
            go_wp2_with (first | (go_at_call 33; (with_reducible refine (HD.out _).mono ?_); rintro e w1 ⟨rfl, rfl⟩))
            go_roundw
            case rel => exact ⟨4, by omega, rfl, rfl, HT.out _ _ HV.out HW.out⟩
            case measure => simp [intOf]
          · have HV : Hid (bits .or .u64 (x : Int) 0 = ((x ||| 0 : Nat) : Int)) := hid (or64 (b := 0) hx (by omega))
            have HW : Hid (x ||| 0 = mkP t (4 + 1)) := hid (HZ.out).symm
            go_wp2
            go_region
            go_wp2_with (first | (go_at_call 33; (with_reducible refine (HD.out _).mono ?_); rintro e w1 ⟨rfl, rfl⟩))
            go_roundw
            case rel => exact ⟨5, by omega, rfl, rfl, HT.out _ _ HV.out HW.out⟩
            case measure => simp [intOf]
          · have HV : Hid (bits .or .u64 (x : Int) 0 = ((x ||| 0 : Nat) : Int)) := hid (or64 (b := 0) hx (by omega))
            have HW : Hid (x ||| 0 = mkP t (5 + 1)) := hid (HZ.out).symm
            go_wp2
            go_region
            go_wp2_with (first | (go_at_call 33; (with_reducible refine (HD.out _).mono ?_); rintro e w1 ⟨rfl, rfl⟩))
            go_roundw
            case rel => exact ⟨6, by omega, rfl, rfl, HT.out _ _ HV.out HW.out⟩
            case measure => simp [intOf]
          · have HV : Hid (bits .or .u64 (x : Int) 0 = ((x ||| 0 : Nat) : Int)) := hid (or64 (b := 0) hx (by omega))
            have HW : Hid (x ||| 0 = mkP t (6 + 1)) := hid (HZ.out).symm
            go_wp2
            go_region
            go_wp2_with (first | (go_at_call 33; (with_reducible refine (HD.out _).mono ?_); rintro e w1 ⟨rfl, rfl⟩))
            go_roundw
            case rel => exact ⟨7, by omega, rfl, rfl, HT.out _ _ HV.out HW.out⟩
            case measure => simp [intOf]
          · have HV : Hid (bits .or .u64 (x : Int) 1 = ((x ||| 1 : Nat) : Int)) := hid (or64 (b := 1) hx (by omega))
            have HW : Hid (x ||| 1 = mkP t (0 + 1)) := hid (HZ.out).symm
            go_wp2
            go_region
            go_wp2_with (first | (go_at_call 33; (with_reducible refine (HD.out _).mono ?_); rintro e w1 ⟨rfl, rfl⟩))
            go_roundw
            case rel => exact ⟨1, by omega, rfl, rfl, HT.out _ _ HV.out HW.out⟩
            case measure => simp [intOf]
          · have HV : Hid (bits .or .u64 (x : Int) 2 = ((x ||| 2 : Nat) : Int)) := hid (or64 (b := 2) hx (by omega))
            have HW : Hid (x ||| 2 = mkP t (1 + 1)) := hid (HZ.out).symm
            go_wp2
            go_region
            go_wp2_with (first | (go_at_call 33; (with_reducible refine (HD.out _).mono ?_); rintro e w1 ⟨rfl, rfl⟩))
            go_roundw
            case rel => exact ⟨2, by omega, rfl, rfl, HT.out _ _ HV.out HW.out⟩
            case measure => simp [intOf]
          · have HV : Hid (bits .or .u64 (x : Int) 8 = ((x ||| 8 : Nat) : Int)) := hid (or64 (b := 8) hx (by omega))
            have HW : Hid (x ||| 8 = mkP t (2 + 1)) := hid (HZ.out).symm
            go_wp2
            go_region
            go_wp2_with (first | (go_at_call 33; (with_reducible refine (HD.out _).mono ?_); rintro e w1 ⟨rfl, rfl⟩))
            go_roundw
            case rel => exact ⟨3, by omega, rfl, rfl, HT.out _ _ HV.out HW.out⟩
            case measure => simp [intOf]
          · have HV : Hid (bits .or .u64 (x : Int) 128 = ((x ||| 128 : Nat) : Int)) := hid (or64 (b := 128) hx (by omega))
            have HW : Hid (x ||| 128 = mkP t (3 + 1)) := hid (HZ.out).symm
            go_wp2
            go_region
            go_wp2_with (first | (go_at_call 33; (with_reducible refine (HD.out _).mono ?_); rintro e w1 ⟨rfl, rfl⟩))
            go_roundw
            case rel => exact ⟨4, by omega, rfl, rfl, HT.out _ _ HV.out HW.out⟩
            case measure => simp [intOf]
          · have HV : Hid (bits .or .u64 (x : Int) 32768 = ((x ||| 32768 : Nat) : Int)) := hid (or64 (b := 32768) hx (by omega))
            have HW : Hid (x ||| 32768 = mkP t (4 + 1)) := hid (HZ.out).symm
            go_wp2
            go_region
            go_wp2_with (first | (go_at_call 33; (with_reducible refine (HD.out _).mono ?_); rintro e w1 ⟨rfl, rfl⟩))
            go_roundw
            case rel => exact ⟨5, by omega, rfl, rfl, HT.out _ _ HV.out HW.out⟩
            case measure => simp [intOf]
          · have HV : Hid (bits .or .u64 (x : Int) 2147483648 = ((x ||| 2147483648 : Nat) : Int)) := hid (or64 (b := 2147483648) hx (by omega))
            have HW : Hid (x ||| 2147483648 = mkP t (5 + 1)) := hid (HZ.out).symm
            go_wp2
            go_region
            go_wp2_with (first | (go_at_call 33; (with_reducible refine (HD.out _).mono ?_); rintro e w1 ⟨rfl, rfl⟩))
            go_roundw
            case rel => exact ⟨6, by omega, rfl, rfl, HT.out _ _ HV.out HW.out⟩
            case measure => simp [intOf]
          · have HV : Hid (bits .or .u64 (x : Int) 9223372036854775808 = ((x ||| 9223372036854775808 : Nat) : Int)) := hid (or64 (b := 9223372036854775808) hx (by omega))
            have HW : Hid (x ||| 9223372036854775808 = mkP t (6 + 1)) := hid (HZ.out).symm
            go_wp2
            go_region
            go_wp2_with (first | (go_at_call 33; (with_reducible refine (HD.out _).mono ?_); rintro e w1 ⟨rfl, rfl⟩))
            go_roundw
            case rel => exact ⟨7, by omega, rfl, rfl, HT.out _ _ HV.out HW.out⟩
            case measure => simp [intOf]
        · obtain rfl : j = 7 := by omega
          go_wp2
          go_roundw
          case rel => exact ⟨t + 1, by omega, by go_num, rfl, HI2.out.next⟩
          case measure => simp [intOf]; omega
    · obtain rfl : t = 24 := by omega
      have HM := hid HI.out.var
      have HN := hid HI.out.out
      go_wp2_with (first
        | (refine step_load_wa rfl 32 _ rfl (w.heap.size + 1) 24 32 22 _ rfl HM.out Try.underlying32 info32 ?_)
        | (refine step_store_wa rfl 32 _ _ rfl w.heap.size 24 32 _ _ rfl rfl HN.out info32 ?_))
      refine ret_wa rfl rfl Try.underlying32 info32 rfl (HI.out.out.row (mkN 24 0)) ⟨?_, below_setRow HI.out.low (Nat.le_refl _) _⟩
      rw [wa_ext mkN_all]
end Go.Proofs.Ytfgbcohmbbjagaa
