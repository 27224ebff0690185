import Derived.Test.YtnklljlgghenpaaProg
import Derived.Test.YtnklljlgghenpaaKyg
import Derived.Test.YtnklljlgghenpaaReg
namespace Go.Proofs.Ytnklljlgghenpaa
open Go.RowKit

/-- The document's substitution, bit by bit. -/
def jx (i m : Nat) : Nat := if m = 4 then i else (i + m + 4) % 8
def dsum (y i : Nat) : Nat → Nat
  | 0 => 99 / 2 ^ i % 2
  | m + 1 => dsum y i m + y / 2 ^ jx i m
def dout (y : Nat) : Nat → Nat
  | 0 => 0
  | i + 1 => dout y i + dsum y i 5 % 2 * 2 ^ i
theorem dsum_le (y i : Nat) (hy : y < 256) : ∀ m, dsum y i m ≤ 1 + 255 * m
  | 0 => by unfold dsum; omega
  | m + 1 => by
    unfold dsum
    have := dsum_le y i hy m
    have h2 : y / 2 ^ jx i m ≤ y := Nat.div_le_self _ _
    omega
theorem dout_lt (y : Nat) : ∀ i, dout y i < 2 ^ i
  | 0 => Nat.one_pos
  | i + 1 => by
    unfold dout
    have := dout_lt y i
    have h2 : dsum y i 5 % 2 ≤ 1 := by omega
    have h3 : dsum y i 5 % 2 * 2 ^ i ≤ 1 * 2 ^ i := Nat.mul_le_mul_right _ h2
    rw [Nat.pow_succ]; omega
theorem dout_all : ∀ y < 256, dout y 8 = ap bend y ^^^ 99 := by decide +kernel

theorem dsum_zero (y j : Nat) : ((99 : Int) / 2 ^ j).tmod 2 = (dsum y j 0 : Nat) := by
  have e : ((99 : Int) / 2 ^ j) = ((99 / 2 ^ j : Nat) : Int) := by simp
  rw [e, Int.tmod_eq_emod_of_nonneg (Int.natCast_nonneg _)]; unfold dsum; omega

set_option maxRecDepth 100000 in
set_option maxHeartbeats 3200000 in
theorem refsub_any (x : Nat) (w : World) (hx : x < 256) :
    Calls Try.prog 12 #[.int .u8 (x : Int)] w fun e w' => e = .returned (.int .u8 (sb x : Nat)) ∧ w' = w := by
  have HI := hid (fun w => refinv_any x w hx)
  have hy := pw_lt hx 254
  have HE : Hid (dout (pw x 254) 8 = sb x) := hid (dout_all _ hy)
  have HB := hid (dsum_le (pw x 254))
  generalize pw x 254 = y at *
  generalize sb x = s at *
  have HO := hid (dout_lt y)
  go_enter Try.func12, Try.ntmps12
  go_wp2_with (first | (go_at_call 18; (with_reducible refine (HI.out _).mono ?_); rintro e w1 ⟨rfl, rfl⟩))
  go_loop [4, 5] (fun n i => ∃ j t : Nat, j ≤ 8 ∧ i = .int .i64 j ∧ n = .int .i64 t ∧ Hid (t = dout y j)) (fun _ i => 8 - (intOf i).toNat)
  case atStart => exact ⟨0, 0, by omega, rfl, rfl, hid rfl⟩
  case round =>
    obtain ⟨j, t, hj, rfl, rfl, ht⟩ := hrel
    by_cases hlt : j < 8
    · have HD0 := hid (dsum_zero y j)
      go_wp2
      go_loop [6, 7] (fun b i => ∃ m p : Nat, m ≤ 5 ∧ i = .int .i64 m ∧ b = .int .i64 p ∧ Hid (p = dsum y j m)) (fun _ i => 5 - (intOf i).toNat)
      case atStart => exact ⟨0, dsum y j 0, by omega, rfl, by rw [HD0.out], hid rfl⟩
      case round =>
        obtain ⟨m, p, hm, rfl, rfl, hp⟩ := hrel
        by_cases hlt2 : m < 5
        · have hpl := HB.out j hy m
          rw [← hp.out] at hpl
          obtain ⟨q, hq, hq8⟩ : ∃ q, jx j m = q ∧ q < 8 := ⟨_, rfl, by unfold jx; split <;> omega⟩
          have hdq : y / 2 ^ q ≤ y := Nat.div_le_self _ _
          obtain ⟨P, hP⟩ : ∃ P, p + y / 2 ^ q = P := ⟨_, rfl⟩
          have hs : (p : Int) + (y : Int) / 2 ^ q = (P : Int) := by rw [← hP]; simp
          have wP : IntKind.i64.wrap (P : Int) = P := by rw [IntKind.wrap_i64]; omega
          have HN : Hid (P = dsum y j (m + 1)) := hid (by rw [← hP, hp.out, ← hq]; rfl)
          by_cases h4 : m = 4
          · subst h4
            obtain rfl : j = q := by rw [← hq]; rfl
            clear hq hdq hP hpl
            go_wp2
            go_round
            case rel => exact ⟨5, P, by omega, by go_num, rfl, HN⟩
            case measure => simp [intOf]
          · have e1 : ((j : Int) + (m : Int) + 4) % 8 = (q : Int) := by rw [← hq]; unfold jx; rw [if_neg h4]; omega
            have e4 : ((m : Int) == 4) = false := by rw [beq_eq_false_iff_ne]; omega
            clear hq hdq hP hpl
            go_wp2
            go_round
            case rel => exact ⟨m + 1, P, by omega, by go_num, rfl, HN⟩
            case measure => simp [intOf]; omega
        · obtain rfl : m = 5 := by omega
          have hpl := HB.out j hy 5
          rw [← hp.out] at hpl
          obtain ⟨z, hz, hz1⟩ : ∃ z, p % 2 = z ∧ z ≤ 1 := ⟨_, rfl, by omega⟩
          have e1 : (p : Int) % 2 = (z : Int) := by omega
          have hpj := pow_le_128 hlt
          have htl := HO.out j
          rw [← ht.out] at htl
          obtain ⟨M, hM⟩ : ∃ M, M = z * 2 ^ j := ⟨_, rfl⟩
          have hMl : M ≤ 1 * 2 ^ j := by rw [hM]; exact Nat.mul_le_mul_right _ hz1
          obtain ⟨T, hT⟩ : ∃ T, t + M = T := ⟨_, rfl⟩
          have hs : (t : Int) + (M : Int) = (T : Int) := by omega
          have wT : IntKind.i64.wrap (T : Int) = T := by rw [IntKind.wrap_i64]; omega
          have hTl : Hid (T = dout y (j + 1)) := hid (by rw [← hT, ht.out, hM, ← hz, hp.out]; rfl)
          have HM := hid hM
          clear hM hT hMl htl hpj hpl hz
          go_wp2_with (first | (refine step_shl_nat rfl 3 40 (.tmp 40) (.tmp 42) rfl z j M (congrArg (Value.int .i64) e1) rfl hz1 (by omega) HM.out ?_))
          go_round
          case rel => exact ⟨j + 1, T, by omega, by go_num, rfl, hTl⟩
          case measure => simp [intOf]; omega
    · obtain rfl : j = 8 := by omega
      have htl := HO.out 8
      rw [← ht.out] at htl
      have h256 : (t : Int) < 256 := by omega
      have hst : t = s := by rw [ht.out]; exact HE.out
      go_wp2
      go_ret
      exact ⟨by rw [← hst]; rfl, rfl⟩
end Go.Proofs.Ytnklljlgghenpaa
