import Derived.Test.YthhkhcacljgelaaGreatProg
import Derived.Test.YthhkhcacljgelaaGreatEbc
import Derived.Test.YthhkhcacljgelaaGreatEbd
import Derived.Test.YthhkhcacljgelaaGreatEbe
/- EaxTells, all together. -/
namespace Go.Proofs.YthhkhcacljgelaaGreat
open Go.RowKit
set_option maxRecDepth 100000

set_option maxHeartbeats 3200000 in
theorem tells_long (Lk kc N ne H he M e L tc : Nat) (n : Int) (ka na ha a ta : Option Addr) (w : World) (h : rnd (Lk : Int) = 0 ∨ N > 500 ∨ H > 500 ∨ M > 500) :
    Calls Tryz.prog 3 #[.slice ka Lk kc, .agg #[.slice na N ne, .slice ha H he, .slice a M e], .int .i64 n, .slice ta L tc] w fun e w' => e = .returned (.bool true) ∧ Below w.heap.size w w' := by
  have HX := hid (Bx4.start w (.slice na N ne) (.slice ha H he) (.slice a M e))
  have HRD := hid (fun w => refrounds_any (Lk : Int) w)
  generalize rnd (Lk : Int) = x at *
  obtain ⟨c0, c1, c2⟩ := blk3 HX.out.blk
  have HA := hid (fun w => eawake_any w)
  by_cases h0 : x = 0
  · subst h0
    clear h
    go_enter Tryz.func3, Tryz.ntmps3
    go_wp2_with (first
      | (go_at_call 4; (with_reducible refine (HRD.out _).mono ?_); rintro e w' ⟨rfl, rfl⟩)
      | (go_at_call 5; (with_reducible refine (HA.out _).mono ?_); rintro q w9 ⟨rfl, hlow⟩
         have HE9 := hid (HX.out.low.trans (hlow.mono HX.out.low.size))
         clear hlow))
    go_ret
    exact ⟨rfl, HE9.out⟩
  · have r0 : ((x : Int) == 0) = false := by rw [beq_eq_false_iff_ne]; omega
    have hcase : (N : Int) > 500 ∨ (¬ (N : Int) > 500 ∧ (H : Int) > 500) ∨ (¬ (N : Int) > 500 ∧ ¬ (H : Int) > 500 ∧ (M : Int) > 500) := by omega
    clear h h0
    rcases hcase with h1 | ⟨h1, h2⟩ | ⟨h1, h2, h3⟩
    all_goals
      go_enter Tryz.func3, Tryz.ntmps3
      go_wp2_with (first
        | (go_at_call 4; (with_reducible refine (HRD.out _).mono ?_); rintro e w' ⟨rfl, rfl⟩)
        | (go_at_call 5; (with_reducible refine (HA.out _).mono ?_); rintro q w9 ⟨rfl, hlow⟩
           have HE9 := hid (HX.out.low.trans (hlow.mono HX.out.low.size))
           clear hlow))
      go_ret
      exact ⟨rfl, HE9.out⟩

theorem etells_core (kv v0 v1 v2 tv : Value) (ks z0 z1 z2 ts : List Int) (n : Int) (w : World)
    (hk : Rd .u8 w kv ks) (hcap : ∀ a n c, kv = .slice a n c → n ≤ c ∧ c ≤ maxLen)
    (r0 : Rd .u8 w v0 z0 ∧ ∀ a n c, v0 = .slice a n c → n ≤ c ∧ c ≤ maxLen) (r1 : Rd .u8 w v1 z1 ∧ ∀ a n c, v1 = .slice a n c → n ≤ c ∧ c ≤ maxLen) (r2 : Rd .u8 w v2 z2 ∧ ∀ a n c, v2 = .slice a n c → n ≤ c ∧ c ≤ maxLen)
    (ht : Rd .u8 w tv ts) (htc : ∀ a n c, tv = .slice a n c → n ≤ c ∧ c ≤ maxLen) :
    Calls Tryz.prog 3 #[kv, .agg #[v0, v1, v2], .int .i64 n, tv] w fun e w' => e = .returned (.bool true) ∧ Below w.heap.size w w' := by
  have n0 := ns_of r0.1
  have b0 : ∀ j, j < z0.length → (fun j => (nth z0 j).toNat) j < 256 := fun j _ => nth_lt r0.1 j
  have n1 := ns_of r1.1
  have b1 : ∀ j, j < z1.length → (fun j => (nth z1 j).toNat) j < 256 := fun j _ => nth_lt r1.1 j
  have n2 := ns_of r2.1
  have b2 : ∀ j, j < z2.length → (fun j => (nth z2 j).toNat) j < 256 := fun j _ => nth_lt r2.1 j
  have n3 := ns_of ht
  have b3 : ∀ j, j < ts.length → (fun j => (nth ts j).toNat) j < 256 := fun j _ => nth_lt ht j
  generalize (fun j => (nth z0 j).toNat) = ν at *
  generalize (fun j => (nth z1 j).toNat) = η at *
  generalize (fun j => (nth z2 j).toNat) = δ at *
  generalize (fun j => (nth ts j).toNat) = τ at *
  obtain ⟨h0, k0⟩ := r0
  obtain ⟨h1, k1⟩ := r1
  obtain ⟨h2, k2⟩ := r2
  obtain ⟨na, ne, rfl, -⟩ := id h0
  obtain ⟨ha, he, rfl, -⟩ := id h1
  obtain ⟨a, e, rfl, -⟩ := id h2
  obtain ⟨ta, tc, rfl, -⟩ := id ht
  have l0 := k0 _ _ _ rfl
  have l1 := k1 _ _ _ rfl
  have l2 := k2 _ _ _ rfl
  have l3 := htc _ _ _ rfl
  generalize z0.length = N at *
  generalize z1.length = H at *
  generalize z2.length = M at *
  generalize ts.length = L at *
  subst n0; subst n1; subst n2; subst n3
  by_cases hl : rnd (ks.length : Int) = 0 ∨ N > 500 ∨ H > 500 ∨ M > 500
  · obtain ⟨ka, kc, rfl, -⟩ := hk
    exact tells_long _ kc N ne H he M e L tc n ka na ha a ta w hl
  · obtain ⟨kb, ko, kc, R, R1, Y, rfl, hr, hky⟩ := ky_any kv ks w hk hcap (by omega)
    by_cases hn : n < 1 ∨ n > 16
    · by_cases hL : L < 1 ∨ L > 16
      · exact tells_bb kb ko kc _ R R1 N ne H he M e L tc n na ha a ta Y ν η δ w hr hky h0 b0 ⟨by omega, l0.1⟩ h1 b1 ⟨by omega, l1.1⟩ h2 b2 ⟨by omega, l2.1⟩ hn hL
      · by_cases hz : ns L (eaxF Y R N ν H η M δ) = ns L τ
        · exact tells_by kb ko kc _ R R1 N ne H he M e L tc n na ha a ta Y ν η δ τ w hr hky h0 b0 ⟨by omega, l0.1⟩ h1 b1 ⟨by omega, l1.1⟩ h2 b2 ⟨by omega, l2.1⟩ ht b3 l3.1 hn (by omega) hz
        · exact tells_bn kb ko kc _ R R1 N ne H he M e L tc n na ha a ta Y ν η δ τ w hr hky h0 b0 ⟨by omega, l0.1⟩ h1 b1 ⟨by omega, l1.1⟩ h2 b2 ⟨by omega, l2.1⟩ ht b3 l3.1 hn (by omega) hz
    · obtain ⟨m, rfl⟩ : ∃ m : Nat, n = m := ⟨n.toNat, by omega⟩
      by_cases hL : L < 1 ∨ L > 16
      · exact tells_ob kb ko kc _ R R1 N ne H he M e L tc m na ha a ta Y ν η δ w hr hky h0 b0 ⟨by omega, l0.1⟩ h1 b1 ⟨by omega, l1.1⟩ h2 b2 ⟨by omega, l2.1⟩ (by omega) hL
      · by_cases hz : ns L (eaxF Y R N ν H η M δ) = ns L τ
        · exact tells_oy kb ko kc _ R R1 N ne H he M e L tc m na ha a ta Y ν η δ τ w hr hky h0 b0 ⟨by omega, l0.1⟩ h1 b1 ⟨by omega, l1.1⟩ h2 b2 ⟨by omega, l2.1⟩ ht b3 l3.1 (by omega) (by omega) hz
        · exact tells_on kb ko kc _ R R1 N ne H he M e L tc m na ha a ta Y ν η δ τ w hr hky h0 b0 ⟨by omega, l0.1⟩ h1 b1 ⟨by omega, l1.1⟩ h2 b2 ⟨by omega, l2.1⟩ ht b3 l3.1 (by omega) (by omega) hz
end Go.Proofs.YthhkhcacljgelaaGreat
