/- The octet layer's plain mathematics: what the program computes is what the reference computes. No walk. -/
import Derived.Test.YtiejaedljebbfaaOcy
namespace Go.Proofs.Ytiejaedljebbfaa
open Go.RowKit

theorem wu64 (n : Int) : IntKind.u64.wrap n = n % 18446744073709551616 := IntKind.wrap_u64 n

/-! Load -/
def sumTo (zs : List Int) (a : Int) : Nat → Int
  | 0 => 0
  | k + 1 => sumTo zs a k + byteAt zs (a + k) * 256 ^ k
theorem pow256 (k : Nat) : (256 : Int) ^ k = 2 ^ (8 * k) := by rw [Int.pow_mul]; rfl
theorem sumTo_bd {zs : List Int} (hz : ∀ z ∈ zs, (Lit.int .u8 z).wf = true) (a : Int) : ∀ k, 0 ≤ sumTo zs a k ∧ sumTo zs a k < 256 ^ k
  | 0 => by simp [sumTo]
  | k + 1 => by
    have ih := sumTo_bd hz a k
    have hb := byteAt_bd hz (a + k)
    have hp : (0 : Int) < 256 ^ k := Int.pow_pos (by decide)
    simp only [sumTo, Int.pow_succ]
    obtain ⟨p, hp'⟩ : ∃ p : Int, 256 ^ k = p := ⟨_, rfl⟩
    rw [hp'] at ih hp ⊢
    have h1 : 0 ≤ byteAt zs (a + k) * p := Int.mul_nonneg hb.1 (by omega)
    have h2 : byteAt zs (a + k) * p ≤ 255 * p := Int.mul_le_mul_of_nonneg_right hb.2 (by omega)
    omega
theorem or_add (x b k : Nat) (hx : x < 2 ^ k) : x ||| b * 2 ^ k = x + b * 2 ^ k := by
  rw [Nat.or_comm, ← Nat.shiftLeft_eq, ← Nat.shiftLeft_add_eq_or_of_lt hx]
  omega
theorem or_u64 (x b : Int) (k : Nat) (hx : 0 ≤ x) (hx2 : x < 2 ^ k) (hb : 0 ≤ b) (hlt : x + b * 2 ^ k < 18446744073709551616) : bits .or .u64 x (b * 2 ^ k) = x + b * 2 ^ k := by
  obtain ⟨X, rfl⟩ := Int.eq_ofNat_of_zero_le hx
  obtain ⟨b', rfl⟩ := Int.eq_ofNat_of_zero_le hb
  have e : ((b' : Int) * 2 ^ k) = ((b' * 2 ^ k : Nat) : Int) := by simp
  rw [e] at hlt ⊢
  have hx3 : X < 2 ^ k := by exact_mod_cast hx2
  rw [bits_or_u64_nat _ _ (by omega) (by omega), or_add X b' k hx3]
  rfl
theorem ldTo_sum {zs : List Int} (hz : ∀ z ∈ zs, (Lit.int .u8 z).wf = true) (a : Int) : ∀ k, k ≤ 8 → ldTo zs a k = sumTo zs a k
  | 0, _ => rfl
  | k + 1, hk => by
    have ih := ldTo_sum hz a k (by omega)
    have hs := sumTo_bd hz a k
    have hs1 := sumTo_bd hz a (k + 1)
    have hb := byteAt_bd hz (a + k)
    have h8 : (256 : Int) ^ (k + 1) ≤ 18446744073709551616 := by
      have : ∀ k, k < 8 → (256 : Int) ^ (k + 1) ≤ 18446744073709551616 := by decide
      exact this k (by omega)
    simp only [ldTo, sumTo] at hs1 ⊢
    by_cases hin : 0 ≤ a + k ∧ a + k < zs.length
    · rw [if_pos hin, ih]
      have hbe : byteAt zs (a + k) = nth zs (a + k).toNat := if_pos hin
      rw [← hbe]
      rw [pow256] at hs hs1 ⊢
      have hnn : 0 ≤ byteAt zs (a + k) * 2 ^ (8 * k) := Int.mul_nonneg hb.1 (Int.le_of_lt (Int.pow_pos (by decide)))
      rw [wu64 (byteAt zs (a + k)), Int.emod_eq_of_lt hb.1 (by omega), wu64, Int.emod_eq_of_lt hnn (by omega)]
      exact or_u64 _ _ _ hs.1 hs.2 hb.1 (by omega)
    · rw [if_neg hin, ih, show byteAt zs (a + k) = 0 from if_neg hin]
      simp
theorem rl_step (x b : Int) (hx : 0 ≤ x) (hx2 : x * 256 + b < 18446744073709551616) (hb : 0 ≤ b) : IntKind.u64.wrap (IntKind.u64.wrap (x * 256) + IntKind.u64.wrap b) = x * 256 + b := by
  simp only [wu64]; omega
theorem load_math {zs : List Int} (hz : ∀ z ∈ zs, (Lit.int .u8 z).wf = true) (a : Int) : ldTo zs a 8 = rl zs a := by
  rw [ldTo_sum hz a 8 (by omega)]
  have h0 := byteAt_bd hz (a + 0); have h1 := byteAt_bd hz (a + 1); have h2 := byteAt_bd hz (a + 2); have h3 := byteAt_bd hz (a + 3)
  have h4 := byteAt_bd hz (a + 4); have h5 := byteAt_bd hz (a + 5); have h6 := byteAt_bd hz (a + 6); have h7 := byteAt_bd hz (a + 7)
  have hs : sumTo zs a 8 = byteAt zs (a + 0) + byteAt zs (a + 1) * 256 + byteAt zs (a + 2) * 65536 + byteAt zs (a + 3) * 16777216 + byteAt zs (a + 4) * 4294967296 + byteAt zs (a + 5) * 1099511627776 + byteAt zs (a + 6) * 281474976710656 + byteAt zs (a + 7) * 72057594037927936 := by
    simp [sumTo]
  rw [hs]
  unfold rl
  split
  · rename_i ho
    have e : ∀ i : Int, 0 ≤ i → i ≤ 7 → byteAt zs (a + i) = 0 := fun i hi hi7 => byteAt_out (by omega)
    simp only [e 0 (by omega) (by omega), e 1 (by omega) (by omega), e 2 (by omega) (by omega), e 3 (by omega) (by omega), e 4 (by omega) (by omega), e 5 (by omega) (by omega), e 6 (by omega) (by omega), e 7 (by omega) (by omega)]; rfl
  · have q1 : rlTo zs a 1 = byteAt zs (a + 7) := by
      have : rlTo zs a 1 = IntKind.u64.wrap (IntKind.u64.wrap ((0 : Int) * 256) + IntKind.u64.wrap (byteAt zs (a + 7))) := rfl
      rw [this, rl_step _ _ (by omega) (by omega) h7.1]; omega
    have st : ∀ (k : Nat) (i : Int), i = 7 - k → rlTo zs a (k + 1) = IntKind.u64.wrap (IntKind.u64.wrap (rlTo zs a k * 256) + IntKind.u64.wrap (byteAt zs (a + i))) := by
      rintro k i rfl; rfl
    have q2 := st 1 6 (by omega); rw [q1, rl_step _ _ (by omega) (by omega) h6.1] at q2
    have q3 := st 2 5 (by omega); rw [q2, rl_step _ _ (by omega) (by omega) h5.1] at q3
    have q4 := st 3 4 (by omega); rw [q3, rl_step _ _ (by omega) (by omega) h4.1] at q4
    have q5 := st 4 3 (by omega); rw [q4, rl_step _ _ (by omega) (by omega) h3.1] at q5
    have q6 := st 5 2 (by omega); rw [q5, rl_step _ _ (by omega) (by omega) h2.1] at q6
    have q7 := st 6 1 (by omega); rw [q6, rl_step _ _ (by omega) (by omega) h1.1] at q7
    have q8 := st 7 0 (by omega); rw [q7, rl_step _ _ (by omega) (by omega) h0.1] at q8
    rw [q8]; omega

/-! Store -/
theorem rsTo_div (x : Int) : ∀ k, rsTo x k = x / 2 ^ (8 * k)
  | 0 => by simp [rsTo]
  | k + 1 => by
    rw [rsTo, rsTo_div x k, Int.ediv_ediv_of_nonneg (Int.le_of_lt (Int.pow_pos (by decide)))]
    congr 1
    rw [show 8 * (k + 1) = 8 * k + 8 by omega, Int.pow_add]; rfl
theorem store_math (x : Int) : ∀ k, stL x k = rsL x k
  | 0 => rfl
  | k + 1 => by rw [stL, rsL, store_math x k, rsTo_div]

/-! Low -/
theorem low_math : ∀ m, m ≤ 64 → lowL m = rlow m := by
  have h : ∀ m, m < 65 → lowL m = rlow m := by decide +kernel
  exact fun m hm => h m (by omega)

/-! Rot -/
theorem rrTo_step (q t h c : Nat) (ht : t + q ≤ 9223372036854775808) (hh : h < q) (hc : c ≤ 1) :
    IntKind.u64.wrap (IntKind.u64.wrap (((c * 9223372036854775808 + t + h : Nat) : Int) * 2) + ((c * 9223372036854775808 + t + h : Nat) : Int) / 9223372036854775808) = ((t * 2 + h * 2 + c : Nat) : Int) := by
  obtain ⟨u, hu⟩ : ∃ u : Nat, u = t + h := ⟨_, rfl⟩
  have hu2 : u < 9223372036854775808 := by omega
  have e0 : c * 9223372036854775808 + t + h = c * 9223372036854775808 + u := by omega
  have hc' : c = 0 ∨ c = 1 := by omega
  rw [e0]
  have e1 : ((c * 9223372036854775808 + u : Nat) : Int) / 9223372036854775808 = (c : Int) := by omega
  have e2 : IntKind.u64.wrap (((c * 9223372036854775808 + u : Nat) : Int) * 2) = ((2 * u : Nat) : Int) := by
    rw [wu64]; rcases hc' with rfl | rfl <;> omega
  rw [e1, e2, wu64]
  rcases hc' with rfl | rfl <;> omega
/-- after m steps: the low 64-m bits lie m higher, the high m bits lie below. -/
theorem rrTo_form (X : Nat) (hX : X < 18446744073709551616) : ∀ m, m < 64 → rrTo (X : Int) m = (((X % 2 ^ (64 - m)) * 2 ^ m + X / 2 ^ (64 - m) : Nat) : Int)
  | 0, _ => by simp [rrTo]; omega
  | m + 1, hm => by
    have ih := rrTo_form X hX m (by omega)
    rw [rrTo, ih]
    obtain ⟨p, hp⟩ : ∃ p, 2 ^ (64 - (m + 1)) = p := ⟨_, rfl⟩
    obtain ⟨q, hq⟩ : ∃ q, 2 ^ m = q := ⟨_, rfl⟩
    have hp2 : 2 ^ (64 - m) = 2 * p := by rw [← hp, show 64 - m = (64 - (m + 1)) + 1 by omega, Nat.pow_succ, Nat.mul_comm]
    have hpq : p * q = 9223372036854775808 := by
      rw [← hp, ← hq, ← Nat.pow_add, show 64 - (m + 1) + m = 63 by omega]
    have hp0 : 0 < p := by rw [← hp]; exact Nat.two_pow_pos _
    have hq0 : 0 < q := by rw [← hq]; exact Nat.two_pow_pos _
    have hX2 : X < 2 * p * q * 1 * 1 := by rw [Nat.mul_one, Nat.mul_one, Nat.mul_assoc, hpq]; omega
    rw [Nat.pow_succ, hp, hp2, hq]
    have hH : X / (2 * p) < q := by
      rw [Nat.div_lt_iff_lt_mul (by omega)]
      calc X < 2 * p * q * 1 * 1 := hX2
        _ = q * (2 * p) := by rw [Nat.mul_one, Nat.mul_one, Nat.mul_comm]
    have hc : X / p % 2 ≤ 1 := by omega
    have e1 : X / p = 2 * (X / (2 * p)) + X / p % 2 := by
      have : X / (2 * p) = X / p / 2 := by rw [Nat.mul_comm, Nat.div_div_eq_div_mul]
      omega
    have e2 : X % (2 * p) = (X / p % 2) * p + X % p := by
      have h1 := Nat.div_add_mod X (2 * p)
      have h2 := Nat.div_add_mod X p
      have h3 : p * (X / p) = 2 * p * (X / (2 * p)) + (X / p % 2) * p := by
        conv => lhs; rw [e1]
        rw [Nat.mul_add]
        congr 1
        · rw [Nat.mul_comm 2 p, Nat.mul_assoc]
        · rw [Nat.mul_comm]
      omega
    have hL : X % p < p := Nat.mod_lt _ hp0
    have e3 : (X % (2 * p)) * q = (X / p % 2) * 9223372036854775808 + X % p * q := by
      rw [e2, Nat.add_mul, Nat.mul_assoc, hpq]
    have hLt : X % p * q + q ≤ 9223372036854775808 := by
      rw [← hpq, ← Nat.succ_mul]
      exact Nat.mul_le_mul_right _ hL
    rw [e3]
    have := rrTo_step q (X % p * q) (X / (2 * p)) (X / p % 2) hLt hH hc
    rw [this]
    have e4 : X % p * (q * 2) = X % p * q * 2 := by rw [Nat.mul_assoc]
    rw [e4]
    congr 1
    omega
theorem rot_math (x : Int) (hx : 0 ≤ x ∧ x ≤ 18446744073709551615) (m : Nat) (hm : m < 64) : rotl x m = rrTo x m := by
  obtain ⟨X, rfl⟩ := Int.eq_ofNat_of_zero_le hx.1
  have hX : X < 18446744073709551616 := by omega
  show rotl (X : Int) m = rrTo (X : Int) m
  rw [rrTo_form X hX m hm]
  unfold rotl
  have d : ((X : Int) / 2 ^ (64 - m)) = ((X / 2 ^ (64 - m) : Nat) : Int) := by simp
  have hsplit : 2 ^ (64 - m) * 2 ^ m = 18446744073709551616 := by rw [← Nat.pow_add, show 64 - m + m = 64 by omega]
  have hA : X * 2 ^ m % 18446744073709551616 = X % 2 ^ (64 - m) * 2 ^ m := by
    rw [← hsplit, Nat.mul_mod_mul_right]
  have e : IntKind.u64.wrap ((X : Int) * 2 ^ m) = ((X % 2 ^ (64 - m) * 2 ^ m : Nat) : Int) := by
    rw [wu64, ← hA]; simp
  have hB : X / 2 ^ (64 - m) < 2 ^ m := by
    rw [Nat.div_lt_iff_lt_mul (Nat.two_pow_pos _), Nat.mul_comm, hsplit]; exact hX
  have hM : X % 2 ^ (64 - m) * 2 ^ m < 18446744073709551616 := by rw [← hA]; exact Nat.mod_lt _ (by decide)
  rw [e, d, bits_or_u64_nat _ _ hM (by have := Nat.div_le_self X (2 ^ (64 - m)); omega), Nat.or_comm, or_add _ _ _ hB, Nat.add_comm]

/-! Same -/
theorem xor_eq_zero (a b : Nat) : a ^^^ b = 0 ↔ a = b := by
  constructor
  · intro h
    have : a ^^^ b ^^^ b = b := by rw [h]; simp
    rwa [Nat.xor_assoc, Nat.xor_self, Nat.xor_zero] at this
  · rintro rfl; simp
theorem or_zero {a b : Int} (ha : 0 ≤ a ∧ a ≤ 255) (hb : 0 ≤ b ∧ b ≤ 255) : bits .or .u8 a b = 0 ↔ a = 0 ∧ b = 0 := by
  rw [u8_or _ _ ha.1 (by omega) hb.1 (by omega)]
  have : ((a.toNat ||| b.toNat : Nat) : Int) = 0 ↔ a.toNat ||| b.toNat = 0 := by omega
  rw [this, Nat.or_eq_zero_iff]
  omega
theorem xor_zero {a b : Int} (ha : 0 ≤ a ∧ a ≤ 255) (hb : 0 ≤ b ∧ b ≤ 255) : bits .xor .u8 a b = 0 ↔ a = b := by
  rw [u8_xor _ _ ha.1 (by omega) hb.1 (by omega)]
  have : ((a.toNat ^^^ b.toNat : Nat) : Int) = 0 ↔ a.toNat ^^^ b.toNat = 0 := by omega
  rw [this, xor_eq_zero]
  omega
theorem dif_bd (xs ys : List Int) : ∀ k, 0 ≤ dif xs ys k ∧ dif xs ys k ≤ 255
  | 0 => by simp [dif]
  | k + 1 => wf_u8 (wf_bits _ _ _ _)
theorem dif_zero {xs ys : List Int} (hx : Bs xs) (hy : Bs ys) : ∀ k, dif xs ys k = 0 ↔ ∀ j, j < k → nth xs j = nth ys j
  | 0 => by simp [dif]
  | k + 1 => by
    rw [dif, or_zero (dif_bd xs ys k) (wf_u8 (wf_bits _ _ _ _)), dif_zero hx hy k, xor_zero (hx.nth k) (hy.nth k)]
    constructor
    · rintro ⟨h1, h2⟩ j hj
      by_cases e : j = k
      · subst e; exact h2
      · exact h1 j (by omega)
    · intro h; exact ⟨fun j hj => h j (by omega), h k (by omega)⟩
theorem ext_nth {xs ys : List Int} (hl : xs.length = ys.length) (h : ∀ j, j < xs.length → nth xs j = nth ys j) : xs = ys := by
  apply List.ext_getElem hl
  intro i h1 h2
  have := h i h1
  rwa [nth_of h1, nth_of h2] at this
theorem same_math {xs ys : List Int} (hx : Bs xs) (hy : Bs ys) : (decide (xs.length = ys.length) && (dif xs ys xs.length == 0)) = decide (xs = ys) := by
  rw [Bool.eq_iff_iff]
  simp only [Bool.and_eq_true, decide_eq_true_eq, beq_iff_eq, dif_zero hx hy]
  constructor
  · rintro ⟨h1, h2⟩; exact ext_nth h1 h2
  · rintro rfl; exact ⟨rfl, fun _ _ => rfl⟩
end Go.Proofs.Ytiejaedljebbfaa
