import Derived.Test.YthkanhhpkaigoaaProg
import Derived.Test.YthkanhhpkaigoaaAec
import Derived.Test.YthkanhhpkaigoaaKer
namespace Go.Proofs.Ythkanhhpkaigoaa
open Go.RowKit

/-- The document's way back, bit by bit. -/
def usum (y i : Nat) : Nat := 5 / 2 ^ i % 2 + y / 2 ^ ((i + 2) % 8) + y / 2 ^ ((i + 5) % 8) + y / 2 ^ ((i + 7) % 8)
def uout (y : Nat) : Nat → Nat
  | 0 => 0
  | i + 1 => uout y i + usum y i % 2 * 2 ^ i
theorem uout_lt (y : Nat) : ∀ i, uout y i < 2 ^ i
  | 0 => Nat.one_pos
  | i + 1 => by
    unfold uout
    have := uout_lt y i
    have h2 : usum y i % 2 ≤ 1 := by omega
    have h3 : usum y i % 2 * 2 ^ i ≤ 1 * 2 ^ i := Nat.mul_le_mul_right _ h2
    rw [Nat.pow_succ]; omega
theorem uout_bend : ∀ y < 256, ap bend (uout y 8) = y ^^^ 99 := by decide +kernel
theorem uout_all {y : Nat} (hy : y < 256) : pw (uout y 8) 254 = bk y := by
  have h8 : uout y 8 < 256 := uout_lt y 8
  have hz := pw_lt h8 254
  have e := bk_sb hz
  rw [show sb (pw (uout y 8) 254) = y by unfold sb; rw [pw_pw_all _ h8, uout_bend y hy, xor_back]] at e
  exact e.symm

set_option maxRecDepth 100000 in
set_option maxHeartbeats 3200000 in
theorem refback_any (y : Nat) (w : World) (hy : y < 256) :
    Calls Try.prog 46 #[.int .u8 (y : Int)] w fun e w' => e = .returned (.int .u8 (bk y : Nat)) ∧ w' = w := by
  have HE : Hid (pw (uout y 8) 254 = bk y) := hid (uout_all hy)
  have HO := hid (uout_lt y)
  generalize bk y = s at *
  go_enter Try.func46, Try.ntmps46
  go_wp2
  go_loop [3, 4] (fun n i => ∃ j t : Nat, j ≤ 8 ∧ i = .int .i64 j ∧ n = .int .i64 t ∧ Hid (t = uout y j)) (fun _ i => 8 - (intOf i).toNat)
  case atStart => exact ⟨0, 0, by omega, rfl, rfl, hid rfl⟩
  case round =>
    obtain ⟨j, t, hj, rfl, rfl, ht⟩ := hrel
    by_cases hlt : j < 8
    · obtain ⟨z0, hz0⟩ : ∃ z, 5 / 2 ^ j % 2 = z := ⟨_, rfl⟩
      have hz0l : z0 ≤ 1 := by omega
      have e0 : ((5 : Int) / 2 ^ j).tmod 2 = (z0 : Int) := by
        have e : ((5 : Int) / 2 ^ j) = ((5 / 2 ^ j : Nat) : Int) := by simp
        rw [e, Int.tmod_eq_emod_of_nonneg (Int.natCast_nonneg _)]; omega
      obtain ⟨q2, hq2⟩ : ∃ q, (j + 2) % 8 = q := ⟨_, rfl⟩
      obtain ⟨q5, hq5⟩ : ∃ q, (j + 5) % 8 = q := ⟨_, rfl⟩
      obtain ⟨q7, hq7⟩ : ∃ q, (j + 7) % 8 = q := ⟨_, rfl⟩
      have f2 : ((j : Int) + 2) % 8 = (q2 : Int) := by omega
      have f5 : ((j : Int) + 5) % 8 = (q5 : Int) := by omega
      have f7 : ((j : Int) + 7) % 8 = (q7 : Int) := by omega
      have g2 : q2 < 8 := by omega
      have g5 : q5 < 8 := by omega
      have g7 : q7 < 8 := by omega
      have d2 : y / 2 ^ q2 ≤ y := Nat.div_le_self _ _
      have d5 : y / 2 ^ q5 ≤ y := Nat.div_le_self _ _
      have d7 : y / 2 ^ q7 ≤ y := Nat.div_le_self _ _
      obtain ⟨P2, hP2⟩ : ∃ P, z0 + y / 2 ^ q2 = P := ⟨_, rfl⟩
      obtain ⟨P5, hP5⟩ : ∃ P, P2 + y / 2 ^ q5 = P := ⟨_, rfl⟩
      obtain ⟨P7, hP7⟩ : ∃ P, P5 + y / 2 ^ q7 = P := ⟨_, rfl⟩
      have s2 : (z0 : Int) + (y : Int) / 2 ^ q2 = (P2 : Int) := by rw [← hP2]; simp
      have s5 : (P2 : Int) + (y : Int) / 2 ^ q5 = (P5 : Int) := by rw [← hP5]; simp
      have s7 : (P5 : Int) + (y : Int) / 2 ^ q7 = (P7 : Int) := by rw [← hP7]; simp
      have w2 : IntKind.i64.wrap (P2 : Int) = P2 := by rw [IntKind.wrap_i64]; omega
      have w5 : IntKind.i64.wrap (P5 : Int) = P5 := by rw [IntKind.wrap_i64]; omega
      have w7 : IntKind.i64.wrap (P7 : Int) = P7 := by rw [IntKind.wrap_i64]; omega
      have hus : usum y j = P7 := by unfold usum; rw [hz0, hq2, hq5, hq7, hP2, hP5, hP7]
      obtain ⟨z, hz, hz1⟩ : ∃ z, P7 % 2 = z ∧ z ≤ 1 := ⟨_, rfl, by omega⟩
      have ez : (P7 : Int) % 2 = (z : Int) := by omega
      have hpj := pow_le_128 hlt
      have htl := HO.out j
      rw [← ht.out] at htl
      obtain ⟨M, hM⟩ : ∃ M, M = z * 2 ^ j := ⟨_, rfl⟩
      have hMl : M ≤ 1 * 2 ^ j := by rw [hM]; exact Nat.mul_le_mul_right _ hz1
      obtain ⟨T, hT⟩ : ∃ T, t + M = T := ⟨_, rfl⟩
      have hs : (t : Int) + (M : Int) = (T : Int) := by omega
      have wT : IntKind.i64.wrap (T : Int) = T := by rw [IntKind.wrap_i64]; omega
      have hTl : Hid (T = uout y (j + 1)) := hid (by rw [← hT, ht.out, hM, ← hz, ← hus]; rfl)
      have HM := hid hM
      clear hM hT hMl htl hpj hz hus hP2 hP5 hP7 hq2 hq5 hq7 hz0 d2 d5 d7
      go_wp2_with (first | (refine step_shl_nat rfl 3 51 (.tmp 40) (.tmp 42) rfl z j M (congrArg (Value.int .i64) ez) rfl hz1 (by omega) HM.out ?_))
      go_round
      case rel => exact ⟨j + 1, T, by omega, by go_num, rfl, hTl⟩
      case measure => simp [intOf]; omega
    · obtain rfl : j = 8 := by omega
      have htl := HO.out 8
      rw [← ht.out] at htl
      have htl2 : t < 256 := htl
      have h256 : (t : Int) < 256 := by omega
      have HI := hid (fun w => refinv_any t w htl2)
      have HX : Hid (pw t 254 = s) := hid (by rw [ht.out]; exact HE.out)
      generalize pw t 254 = v at *
      go_wp2_with (first | (go_at_call 58; (with_reducible refine (HI.out _).mono ?_); rintro e w1 ⟨rfl, rfl⟩))
      go_ret
      exact ⟨by rw [← HX.out]; rfl, rfl⟩
end Go.Proofs.Ythkanhhpkaigoaa
