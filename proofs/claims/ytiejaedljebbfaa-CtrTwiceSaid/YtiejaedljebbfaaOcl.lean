/- Arrays of numbers that come in by value; more plain mathematics of the octet layer. -/
import Derived.Test.YtiejaedljebbfaaOcn
import Derived.Test.YtiejaedljebbfaaOcz
namespace Go.Proofs.Ytiejaedljebbfaa
open Go.ChangeShapes Go.WideShapes Go.ChangeAt Go.RowKit

theorem oarr_open {H : Type} {enc : TypeId × Value → H} {P : Program} {W : World} {sp : Nat → Bool} {held : Bool} {k : IntKind} {n : Nat} {t e : TypeId} {base : Nat} {v : Value} {d : DataW H} {p : List MemPlace} {b0 : Nat}
    (ht : P.underlying t = some (.array n e)) (he : P.underlying e = some (.int k)) (hc : P.cellsOf e = 1) (hct : P.cellsOf t = n)
    (hv : Value.okWide P W .any b0 t v) (h : DataW.Trod enc P W base sp held t v d p) :
    ∃ zs : List Int, v = .agg (zs.map (Value.int k)).toArray ∧ zs.length = n ∧ ∀ z ∈ zs, (Lit.int k z).wf = true := by
  have hv' : ∃ cs, v = .agg cs ∧ cs.size = P.cellsOf t := by
    unfold Value.okWide at hv
    rw [ht] at hv
    obtain ⟨cs, h1, h2, _⟩ := hv
    exact ⟨cs, h1, h2⟩
  obtain ⟨cs, rfl, hcs⟩ := hv'
  obtain ⟨fuel, hf⟩ := h
  obtain ⟨xs, m, rfl, _, hl, hxl, hel⟩ := DataW.trod_array ht hf
  simp only [Value.cells, hc, Nat.mul_one, hct] at hl hel
  have each : ∀ i (h : i < cs.toList.length), ∃ z, cs.toList[i] = .int k z ∧ (Lit.int k z).wf = true := by
    intro i hi
    have h1 := hel i (by omega)
    rw [List.drop_eq_getElem_cons hi, List.take_succ_cons, List.take_zero, List.getElem?_eq_getElem (by omega)] at h1
    obtain ⟨z, hz, _, hw⟩ := DataW.trod_int he h1
    simp only [List.cons.injEq, and_true] at hz
    exact ⟨z, hz, hw⟩
  have lst : ∀ l : List Value, (∀ i (h : i < l.length), ∃ z, l[i] = .int k z ∧ (Lit.int k z).wf = true) → ∃ zs : List Int, l = zs.map (Value.int k) ∧ ∀ z ∈ zs, (Lit.int k z).wf = true := by
    intro l
    induction l with
    | nil => intro _; exact ⟨[], rfl, by simp⟩
    | cons a r ih =>
      intro h
      obtain ⟨z, hz, hw⟩ := h 0 (by simp)
      obtain ⟨zs, hr, hws⟩ := ih (fun i hi => h (i + 1) (by simp; omega))
      simp only [List.getElem_cons_zero] at hz
      exact ⟨z :: zs, by rw [hz, hr]; rfl, by intro y hy; rcases List.mem_cons.1 hy with rfl | hy; exact hw; exact hws y hy⟩
  obtain ⟨zs, hz, hws⟩ := lst _ each
  refine ⟨zs, by rw [← hz], ?_, hws⟩
  have := congrArg List.length hz
  simp at this hl; omega

/-! what is stored is loaded -/
theorem stored_loaded (x : Int) (hx : 0 ≤ x ∧ x ≤ 18446744073709551615) : rl (rsL x 8) 0 = x := by
  have hwf : ∀ z ∈ rsL x 8, (Lit.int .u8 z).wf = true := by
    have : ∀ k, ∀ z ∈ rsL x k, (Lit.int .u8 z).wf = true := by
      intro k
      induction k with
      | zero => intro z h; simp [rsL] at h
      | succ k ih =>
        intro z h
        simp only [rsL, List.mem_append, List.mem_singleton] at h
        rcases h with h | rfl
        · exact ih z h
        · have : (Lit.int .u8 (IntKind.u8.wrap (rsTo x k))).wf = true := wf_wrap _ _
          rwa [IntKind.wrap_u8'] at this
    exact this 8
  rw [← load_math hwf, ldTo_sum hwf 0 8 (by omega)]
  have e : ∀ i : Nat, i < 8 → byteAt (rsL x 8) (0 + i) = x / 2 ^ (8 * i) % 256 := by
    intro i hi
    have h8 : (rsL x 8).length = 8 := rsL_len x 8
    have hn : ∀ k j, j < k → nth (rsL x k) j = rsTo x j % 256 := by
      intro k
      induction k with
      | zero => intro j h; omega
      | succ k ih =>
        intro j h
        rw [rsL, nth_append, rsL_len]
        by_cases e : j = k
        · simp [e]
        · rw [if_neg e, ih j (by omega)]
    rw [byteAt_in (by omega) (by rw [h8]; omega), show (0 + (i : Int)).toNat = i by omega, hn 8 i hi, rsTo_div]
  have key : ∀ k, k ≤ 8 → sumTo (rsL x 8) 0 k = x % 256 ^ k := by
    intro k
    induction k with
    | zero => intro _; simp [sumTo]
    | succ k ih =>
      intro hk
      rw [sumTo, ih (by omega), e k (by omega), ← pow256, Int.pow_succ]
      have hP : (0 : Int) ≤ 256 ^ k := Int.le_of_lt (Int.pow_pos (by decide))
      generalize (256 : Int) ^ k = P at hP ⊢
      have d : x / (P * 256) = x / P / 256 := (Int.ediv_ediv_of_nonneg hP).symm
      rw [Int.emod_def x (P * 256), Int.emod_def x P, Int.emod_def (x / P) 256, d, Int.sub_mul, Int.mul_comm (x / P) P]
      have : 256 * (x / P / 256) * P = P * 256 * (x / P / 256) := by rw [Int.mul_comm _ P, ← Int.mul_assoc]
      omega
  rw [key 8 (by omega)]
  have : (256 : Int) ^ 8 = 18446744073709551616 := rfl
  rw [this]; omega

/-! what is rotated comes back -/
theorem rrTo_add (x : Int) (a : Nat) : ∀ b, rrTo (rrTo x a) b = rrTo x (a + b)
  | 0 => rfl
  | b + 1 => by rw [rrTo, rrTo_add x a b]; rfl
theorem rrTo_64 (x : Int) (hx : 0 ≤ x ∧ x ≤ 18446744073709551615) : rrTo x 64 = x := by
  obtain ⟨X, rfl⟩ := Int.eq_ofNat_of_zero_le hx.1
  have h := rrTo_form X (by omega) 63 (by omega)
  show IntKind.u64.wrap (IntKind.u64.wrap (rrTo (X : Int) 63 * 2) + rrTo (X : Int) 63 / 9223372036854775808) = _
  have h' : rrTo (X : Int) 63 = ((X % 2 * 9223372036854775808 + 0 + X / 2 : Nat) : Int) := by
    simp only [Nat.reduceSub, Nat.reducePow] at h; rw [h, Nat.add_zero]
  rw [h', rrTo_step 9223372036854775808 0 (X / 2) (X % 2) (by omega) (by omega) (by omega)]
  have : 0 * 2 + X / 2 * 2 + X % 2 = X := by omega
  rw [this]
theorem rrTo_bd (x : Int) (hx : 0 ≤ x ∧ x ≤ 18446744073709551615) (k : Nat) : 0 ≤ rrTo x k ∧ rrTo x k ≤ 18446744073709551615 := by
  cases k with
  | zero => exact hx
  | succ k => simp only [rrTo, wu64]; omega
theorem rot_back (x k : Int) (hx : 0 ≤ x ∧ x ≤ 18446744073709551615) : rotl (rotl x (k % 64).toNat) (-(k.tmod 64) % 64).toNat = x := by
  rw [rot_math x hx _ (by omega), rot_math _ (rrTo_bd x hx _) _ (by omega), rrTo_add]
  have hm : k.tmod 64 = if k % 64 ≠ 0 ∧ k < 0 then k % 64 - 64 else k % 64 := by
    rw [Int.tmod_eq_emod]; split <;> split <;> simp_all <;> omega
  have : (k % 64).toNat + (-(k.tmod 64) % 64).toNat = 0 ∨ (k % 64).toNat + (-(k.tmod 64) % 64).toNat = 64 := by
    rw [hm]; split <;> omega
  rcases this with h | h <;> rw [h]
  · rfl
  · exact rrTo_64 x hx
theorem rot_zero (x : Int) (hx : 0 ≤ x ∧ x ≤ 18446744073709551615) : rotl x 0 = x := rot_math x hx 0 (by omega)

/-! doubling is linear -/
theorem b8_xor {a b : Int} (ha : 0 ≤ a ∧ a ≤ 255) (hb : 0 ≤ b ∧ b ≤ 255) : bits .xor .u8 a b = ((a.toNat ^^^ b.toNat : Nat) : Int) := u8_xor _ _ ha.1 (by omega) hb.1 (by omega)
theorem rdb_lin (a b c d : Nat) (hb : b < 256) (hd : d < 256) :
    (a ^^^ c) % 128 * 2 + (b ^^^ d) / 128 = (a % 128 * 2 + b / 128) ^^^ (c % 128 * 2 + d / 128) := by
  have hb1 : b / 128 < 2 ^ 1 := by omega
  have hd1 : d / 128 < 2 ^ 1 := by omega
  have hx : (b ^^^ d) / 128 = b / 128 ^^^ d / 128 := by
    have := @Nat.shiftRight_xor_distrib 7 b d
    simpa [Nat.shiftRight_eq_div_pow] using this
  have hx1 : (b ^^^ d) / 128 < 2 ^ 1 := by rw [hx]; exact Nat.xor_lt_two_pow hb1 hd1
  have hm : (a ^^^ c) % 128 = a % 128 ^^^ c % 128 := by
    have := @Nat.xor_mod_two_pow a c 7
    simpa using this
  have e : ∀ m n : Nat, n < 2 ^ 1 → m * 2 + n = m * 2 ^ 1 ^^^ n := by
    intro m n hn
    have h1 : n ||| m * 2 ^ 1 = n + m * 2 ^ 1 := or_add n m 1 hn
    have h2 : (m * 2 ^ 1 ^^^ n) = (n ||| m * 2 ^ 1) := by
      apply Nat.eq_of_testBit_eq
      intro i
      rw [Nat.testBit_xor, Nat.testBit_or, ← Nat.shiftLeft_eq, Nat.testBit_shiftLeft]
      by_cases hi : 1 ≤ i
      · have : n.testBit i = false := Nat.testBit_lt_two_pow (Nat.lt_of_lt_of_le hn (Nat.pow_le_pow_right (by decide) hi))
        simp [this]
      · simp [hi]
    rw [h2, h1]; omega
  rw [e _ _ hx1, e _ _ hb1, e _ _ hd1, hx, hm]
  have hs : (a % 128 ^^^ c % 128) * 2 ^ 1 = (a % 128) * 2 ^ 1 ^^^ (c % 128) * 2 ^ 1 := by
    have := @Nat.shiftLeft_xor_distrib 1 (a % 128) (c % 128)
    simpa only [Nat.shiftLeft_eq] using this
  rw [hs]
  ac_rfl

theorem xorL_nth (xs ys : List Int) : ∀ k j, j < k → nth (xorL xs ys k) j = bits .xor .u8 (nth xs j) (nth ys j)
  | 0, j, h => by omega
  | k + 1, j, h => by
    rw [xorL, nth_append, xorL_len]
    by_cases e : j = k
    · simp [e]
    · rw [if_neg e, xorL_nth xs ys k j (by omega)]
def carry (zs : List Int) (j : Nat) : Int := if j = 15 then nth zs 0 / 128 * 135 else 0
theorem carry_bd {zs : List Int} (hz : Bs zs) (j : Nat) : 0 ≤ carry zs j ∧ carry zs j ≤ 255 := by
  have := hz.nth 0
  unfold carry; split <;> omega
theorem xor_id {a : Int} (ha : 0 ≤ a ∧ a ≤ 255) : bits .xor .u8 a 0 = a := by
  rw [b8_xor ha (by omega)]
  have : a.toNat ^^^ (0 : Int).toNat = a.toNat := by simp
  rw [this]; omega
theorem rdL_nth {zs : List Int} (h16 : zs.length = 16) (hz : Bs zs) (j : Nat) (hj : j < 16) : nth (rdL zs) j = bits .xor .u8 (rdByte zs j) (carry zs j) := by
  have h0 := hz.nth 0
  have hb := rdByte_bd hz j
  have h15 : nth (rdTo zs 16) 15 = rdByte zs 15 := rdTo_nth zs 16 15 (by omega)
  unfold rdL carry
  rw [if_pos h16]
  by_cases ht : 128 ≤ nth zs 0
  · have e : nth zs 0 / 128 * 135 = 135 := by omega
    rw [if_pos ht, nth_set _ _ _ _ (by rw [rdTo_len]; omega), h15, e, rdTo_nth zs 16 j hj]
    by_cases e15 : j = 15
    · subst e15; simp
    · rw [if_neg e15, if_neg e15, xor_id hb]
  · have e : nth zs 0 / 128 * 135 = 0 := by omega
    rw [if_neg ht, rdTo_nth zs 16 j hj, e]
    split <;> rw [xor_id hb]
theorem rdL_len16 {zs : List Int} (h16 : zs.length = 16) : (rdL zs).length = 16 := by
  unfold rdL
  rw [if_pos h16]
  split <;> simp [rdTo_len]
theorem carry_lin (a c : Nat) (ha : a < 256) (hc : c < 256) : (a ^^^ c) / 128 * 135 = (a / 128 * 135) ^^^ (c / 128 * 135) := by
  have hx : (a ^^^ c) / 128 = a / 128 ^^^ c / 128 := by
    have := @Nat.shiftRight_xor_distrib 7 a c
    simpa [Nat.shiftRight_eq_div_pow] using this
  have h1 : a / 128 = 0 ∨ a / 128 = 1 := by omega
  have h2 : c / 128 = 0 ∨ c / 128 = 1 := by omega
  rw [hx]
  rcases h1 with h1 | h1 <;> rcases h2 with h2 | h2 <;> rw [h1, h2] <;> decide
theorem double_lin {xs ys : List Int} (hx16 : xs.length = 16) (hy16 : ys.length = 16) (hx : Bs xs) (hy : Bs ys) :
    rdL (xorL xs ys 16) = xorL (rdL xs) (rdL ys) 16 := by
  have hc16 : (xorL xs ys 16).length = 16 := xorL_len _ _ _
  have hc := xorL_bs xs ys 16
  apply ext_nth
  · rw [rdL_len16 hc16, xorL_len]
  · intro j hj
    rw [rdL_len16 hc16] at hj
    rw [rdL_nth hc16 hc j hj, xorL_nth _ _ 16 j hj, rdL_nth hx16 hx j hj, rdL_nth hy16 hy j hj]
    have hX := rdByte_bd hx j; have hY := rdByte_bd hy j; have cX := carry_bd hx j; have cY := carry_bd hy j
    have hC := rdByte_bd hc j; have cC := carry_bd hc j
    rw [b8_xor hX cX, b8_xor hY cY, b8_xor hC cC, b8_xor (by have := Nat.xor_lt_two_pow (n := 8) (x := (rdByte xs j).toNat) (y := (carry xs j).toNat) (by omega) (by omega); omega) (by have := Nat.xor_lt_two_pow (n := 8) (x := (rdByte ys j).toNat) (y := (carry ys j).toNat) (by omega) (by omega); omega)]
    simp only [Int.toNat_natCast]
    have nx : ∀ i, i < 16 → nth (xorL xs ys 16) i = (((nth xs i).toNat ^^^ (nth ys i).toNat : Nat) : Int) := fun i hi => by
      rw [xorL_nth _ _ 16 i hi, b8_xor (hx.nth i) (hy.nth i)]
    have k1 : (rdByte (xorL xs ys 16) j).toNat = (rdByte xs j).toNat ^^^ (rdByte ys j).toNat := by
      have a1 := hx.nth j; have a2 := hy.nth j; have a3 := hx.nth (j + 1); have a4 := hy.nth (j + 1)
      unfold rdByte
      by_cases h15 : j < 15
      · rw [if_pos h15, if_pos h15, if_pos h15, nx j hj, nx (j + 1) (by omega)]
        have := rdb_lin (nth xs j).toNat (nth xs (j + 1)).toNat (nth ys j).toNat (nth ys (j + 1)).toNat (by omega) (by omega)
        have e1 : (nth xs j % 128 * 2 + nth xs (j + 1) / 128).toNat = (nth xs j).toNat % 128 * 2 + (nth xs (j + 1)).toNat / 128 := by omega
        have e2 : (nth ys j % 128 * 2 + nth ys (j + 1) / 128).toNat = (nth ys j).toNat % 128 * 2 + (nth ys (j + 1)).toNat / 128 := by omega
        rw [e1, e2, ← this]; omega
      · rw [if_neg h15, if_neg h15, if_neg h15, nx j hj]
        have := rdb_lin (nth xs j).toNat 0 (nth ys j).toNat 0 (by omega) (by omega)
        simp only [Nat.zero_div, Nat.add_zero, Nat.xor_self] at this
        have e1 : (nth xs j % 128 * 2).toNat = (nth xs j).toNat % 128 * 2 := by omega
        have e2 : (nth ys j % 128 * 2).toNat = (nth ys j).toNat % 128 * 2 := by omega
        rw [e1, e2, ← this]; omega
    have k2 : (carry (xorL xs ys 16) j).toNat = (carry xs j).toNat ^^^ (carry ys j).toNat := by
      have a1 := hx.nth 0; have a2 := hy.nth 0
      unfold carry
      by_cases h15 : j = 15
      · rw [if_pos h15, if_pos h15, if_pos h15, nx 0 (by omega)]
        have := carry_lin (nth xs 0).toNat (nth ys 0).toNat (by omega) (by omega)
        have e1 : (nth xs 0 / 128 * 135).toNat = (nth xs 0).toNat / 128 * 135 := by omega
        have e2 : (nth ys 0 / 128 * 135).toNat = (nth ys 0).toNat / 128 * 135 := by omega
        rw [e1, e2, ← this]; omega
      · rw [if_neg h15, if_neg h15, if_neg h15]; rfl
    rw [k1, k2]
    congr 1
    ac_rfl
theorem xorL_back {xs ys : List Int} (hx16 : xs.length = 16) (hx : Bs xs) (hy : Bs ys) : xorL (xorL xs ys 16) ys 16 = xs := by
  apply ext_nth
  · rw [xorL_len, hx16]
  · intro j hj
    rw [xorL_len] at hj
    have a1 := hx.nth j; have a2 := hy.nth j
    rw [xorL_nth _ _ 16 j hj, xorL_nth _ _ 16 j hj, b8_xor a1 a2]
    have hl := Nat.xor_lt_two_pow (n := 8) (x := (nth xs j).toNat) (y := (nth ys j).toNat) (by omega) (by omega)
    rw [b8_xor (by omega) a2, Int.toNat_natCast, Nat.xor_assoc, Nat.xor_self, Nat.xor_zero]
    omega
end Go.Proofs.Ytiejaedljebbfaa
