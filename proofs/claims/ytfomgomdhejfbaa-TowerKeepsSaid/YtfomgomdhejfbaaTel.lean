import Derived.Test.YtfomgomdhejfbaaProg
import Derived.Test.YtfomgomdhejfbaaIno
namespace Go.Proofs.Ytfomgomdhejfbaa
open Go.RowKit

theorem tawake_any (w : World) : Calls Try.prog 18 #[] w fun e w' => e = .returned (.bool true) ∧ w' = w := by
  have HM : Hid (∀ w, Calls Try.prog 11 #[.int .u8 16, .int .u8 16] w fun e w' => e = .returned (.int .u8 24) ∧ w' = w) := hid (fun w => tmul_to (a := 16) (b := 16) (c := 24) (by decide) (by decide) (by decide +kernel) w)
  go_enter Try.func18, Try.ntmps18
  go_wp2_with (go_at_call 11; (with_reducible refine (HM.out _).mono ?_); rintro e w1 ⟨rfl, rfl⟩)
  go_ret
  exact ⟨rfl, rfl⟩
theorem tinv_to {a c : Nat} (ha : a < 256) (h : ti a = c) (w : World) :
    Calls Try.prog 14 #[.int .u8 (a : Int)] w fun e w' => e = .returned (.int .u8 (c : Nat)) ∧ w' = w := by
  have := tinv_any a w ha
  rw [h] at this
  exact this
theorem trefinv_to {a c : Nat} (ha : a < 256) (h : ti a = c) (w : World) :
    Calls Try.prog 15 #[.int .u8 (a : Int)] w fun e w' => e = .returned (.int .u8 (c : Nat)) ∧ w' = w := by
  have := trefinv_any a w ha
  rw [h] at this
  exact this
theorem tno_to {a c : Nat} (ha : a < 256) (h : tno a = c) (w : World) :
    Calls Try.prog 13 #[.int .u8 (a : Int)] w fun e w' => e = .returned (.int .u8 (c : Nat)) ∧ w' = w := by
  have := tno_any a w ha
  rw [h] at this
  exact this

set_option maxRecDepth 100000 in
set_option maxHeartbeats 3200000 in
theorem tells_core (a b : Nat) (w : World) (ha : a < 256) (hb : b < 256) :
    Calls Try.prog 3 #[.int .u8 (a : Int), .int .u8 (b : Int)] w fun e w' => e = .returned (.bool true) ∧ Below w.heap.size w w' := by
  have hguard := guard23
  have HN := hid new_any
  have HI := hid inMat_any
  have HO := hid outMat_any
  have IN1 := hid in_first
  have IND := hid in_done
  have IND2 := hid in_nil
  have OND := hid out_done
  have OND2 := hid out_nil
  have HEI : ∀ w, (Op.equalIn 10000 25 (.agg (ba 8 inM)) (.agg (ba 8 inM))).run Try.prog w = .ok true w := fun w => eqB (f := inM) (g := inM) (by simp) w
  have HEO : ∀ w, (Op.equalIn 10000 25 (.agg (ba 8 (inv inM))) (.agg (ba 8 (inv inM)))).run Try.prog w = .ok true w := fun w => eqB (f := inv inM) (g := inv inM) (by simp) w
  generalize inv inM = y at *
  generalize inM = x at *
  -- the numbers
  obtain ⟨m, hm⟩ : ∃ x, tm a b = x := ⟨_, rfl⟩
  obtain ⟨n, hn⟩ : ∃ x, tno a = x := ⟨_, rfl⟩
  obtain ⟨i, hi⟩ : ∃ x, ti a = x := ⟨_, rfl⟩
  have M1 := hid (fun w => tmul_to ha hb hm w)
  have M2 := hid (fun w => trefmul_to ha hb hm w)
  have I1 := hid (fun w => tinv_to ha hi w)
  have I2 := hid (fun w => trefinv_to ha hi w)
  have N1 := hid (fun w => tno_to ha hn w)
  have HT : Hid (n = (nm 8 (nm (a / 16) (a / 16)) ^^^ nm (a / 16) (a % 16)) ^^^ nm (a % 16) (a % 16)) := hid hn.symm
  obtain ⟨a1, h1⟩ : ∃ x, a / 16 = x := ⟨_, rfl⟩
  obtain ⟨a0, h2⟩ : ∃ x, a % 16 = x := ⟨_, rfl⟩
  have k1 : a1 < 16 := by omega
  have k2 : a0 < 16 := by omega
  rw [h1, h2] at HT
  have e1 : Hid ((a : Int) / 16 = (a1 : Int)) := hid (by omega)
  have e2 : Hid ((a : Int) % 16 = (a0 : Int)) := hid (by omega)
  clear h1 h2 hm hn hi
  obtain ⟨s, hs⟩ : ∃ x, nm a1 a1 = x := ⟨_, rfl⟩
  obtain ⟨t, ht⟩ : ∃ x, nm 8 s = x := ⟨_, rfl⟩
  obtain ⟨p, hp⟩ : ∃ x, nm a1 a0 = x := ⟨_, rfl⟩
  obtain ⟨q, hq⟩ : ∃ x, nm a0 a0 = x := ⟨_, rfl⟩
  have js : s < 16 := hs ▸ nm_lt _ _
  have jp : p < 16 := hp ▸ nm_lt _ _
  have jq : q < 16 := hq ▸ nm_lt _ _
  have jt : t < 16 := ht ▸ nm_lt _ _
  rw [hs, hp, hq, ht] at HT
  have R1 := hid (fun w => nrefmul_to (a := a1) (b := a1) (by omega) (by omega) hs w)
  have R2 : Hid (∀ w, Calls Try.prog 10 #[.int .u8 (s : Int), .int .u8 8] w fun e w' => e = .returned (.int .u8 (t : Nat)) ∧ w' = w) := hid (fun w => nrefmul_to (a := s) (b := 8) (by omega) (by omega) ((nm_comm s 8).trans ht) w)
  have R3 := hid (fun w => nrefmul_to (a := a1) (b := a0) (by omega) (by omega) hp w)
  have R4 := hid (fun w => nrefmul_to (a := a0) (b := a0) (by omega) (by omega) hq w)
  rw [← e1.out] at R1
  rw [← e1.out, ← e2.out] at R3
  rw [← e2.out] at R4
  clear hs ht hp hq
  have X : ((n : Int) == bits .xor .u8 (bits .xor .u8 (t : Int) (p : Int)) (q : Int)) = true := by
    rw [xor8 (by omega) (by omega), xor8 (xor_lt (by omega) (by omega)) (by omega)]; exact eqT HT.out
  go_enter Try.func3, Try.ntmps3
  go_wp2_with (first
    | (go_at_call 5; (with_reducible refine (HN.out w).mono ?_); rintro e w1 ⟨rfl, hf, hl⟩; have HF1 := hid hf; have HL1 := hid hl; clear hf hl)
    | (go_at_call 6; (with_reducible refine (IN1.out w.heap.size 0 _ _ w1 HF1.out).mono ?_); rintro e w2 ⟨rfl, hf, hl⟩; have HF2 := hid hf; have HL2 := hid (HL1.out.trans (hl.below (Nat.le_refl _) HL1.out.size)); clear hf hl)
    | (go_at_call 7; (with_reducible refine (HI.out w2).mono ?_); rintro e w3 ⟨rfl, hl⟩; have HF3 := hid (HF2.out.self hl); have HL3 := hid (HL2.out.trans (hl.mono HL2.out.size)); clear hl)
    | (go_at_call 8; (with_reducible refine (OND.out w.heap.size 0 _ _ w3 HF3.out).mono ?_); rintro e w4 ⟨rfl, hf, hl⟩; have HF4 := hid hf; have HL4 := hid (HL3.out.trans (hl.mono HL3.out.size)); clear hf hl)
    | (go_at_call 9; (with_reducible refine (HO.out w4).mono ?_); rintro e w5 ⟨rfl, hl⟩; have HF5 := hid (HF4.out.self hl); have HL5 := hid (HL4.out.trans (hl.mono HL4.out.size)); clear hl)
    | (go_at_call 6; (with_reducible refine (IND2.out w5).mono ?_); rintro e w6 ⟨rfl, hl⟩; have HF6 := hid (HF5.out.self hl); have HL6 := hid (HL5.out.trans (hl.mono HL5.out.size)); clear hl)
    | (go_at_call 7; (with_reducible refine (HI.out w6).mono ?_); rintro e w7 ⟨rfl, hl⟩; have HF7 := hid (HF6.out.self hl); have HL7 := hid (HL6.out.trans (hl.mono HL6.out.size)); clear hl)
    | (go_at_call 8; (with_reducible refine (OND2.out w7).mono ?_); rintro e w8 ⟨rfl, hl⟩; have HF8 := hid (HF7.out.self hl); have HL8 := hid (HL7.out.trans (hl.mono HL7.out.size)); clear hl)
    | (go_at_call 9; (with_reducible refine (HO.out w8).mono ?_); rintro e w9 ⟨rfl, hl⟩; have HF9 := hid (HF8.out.self hl); have HL9 := hid (HL8.out.trans (hl.mono HL8.out.size)); clear hl)
    | (go_at_call 6; (with_reducible refine (IND.out w.heap.size 0 _ _ w9 HF9.out).mono ?_); rintro e wa ⟨rfl, hf, hl⟩; have HFa := hid hf; have HLa := hid (HL9.out.trans (hl.mono HL9.out.size)); clear hf hl)
    | (go_at_call 7; (with_reducible refine (HI.out wa).mono ?_); rintro e wb ⟨rfl, hl⟩; have HLb := hid (HLa.out.trans (hl.mono HLa.out.size)); clear hl)
    | (go_at_call 10; (with_reducible refine (R1.out _).mono ?_); rintro e w' ⟨rfl, rfl⟩)
    | (go_at_call 10; (with_reducible refine (R2.out _).mono ?_); rintro e w' ⟨rfl, rfl⟩)
    | (go_at_call 10; (with_reducible refine (R3.out _).mono ?_); rintro e w' ⟨rfl, rfl⟩)
    | (go_at_call 10; (with_reducible refine (R4.out _).mono ?_); rintro e w' ⟨rfl, rfl⟩)
    | (go_at_call 11; (with_reducible refine (M1.out _).mono ?_); rintro e w' ⟨rfl, rfl⟩)
    | (go_at_call 12; (with_reducible refine (M2.out _).mono ?_); rintro e w' ⟨rfl, rfl⟩)
    | (go_at_call 13; (with_reducible refine (N1.out _).mono ?_); rintro e w' ⟨rfl, rfl⟩)
    | (go_at_call 14; (with_reducible refine (I1.out _).mono ?_); rintro e w' ⟨rfl, rfl⟩)
    | (go_at_call 15; (with_reducible refine (I2.out _).mono ?_); rintro e w' ⟨rfl, rfl⟩)
    | (go_at_call 16; (with_reducible refine (root_any _).mono ?_); rintro e wc ⟨rfl, hl⟩; have HLc := hid (HLb.out.trans (hl.mono HLb.out.size)); clear hl)
    | (go_at_call 17; (with_reducible refine (refroot_any _).mono ?_); rintro e w' ⟨rfl, rfl⟩)
    | (go_at_call 18; (with_reducible refine (tawake_any _).mono ?_); rintro e w' ⟨rfl, rfl⟩))
  go_ret
  exact ⟨rfl, HLc.out⟩
end Go.Proofs.Ytfomgomdhejfbaa
