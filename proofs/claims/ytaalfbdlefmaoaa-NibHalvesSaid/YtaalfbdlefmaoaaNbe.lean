import Derived.Test.YtaalfbdlefmaoaaProg
import Derived.Test.YtaalfbdlefmaoaaNbd
namespace Go.Proofs.Ytaalfbdlefmaoaa
open Go.RowKit

theorem nmul_to {a b c : Nat} (ha : a < 256) (hb : b < 256) (h : nm a b = c) (w : World) :
    Calls Try.prog 6 #[.int .u8 (a : Int), .int .u8 (b : Int)] w fun e w' => e = .returned (.int .u8 (c : Nat)) ∧ w' = w := by
  have := nmul_any a b w ha hb
  rw [h] at this
  exact this
theorem ninv_to {a c : Nat} (ha : a < 256) (h : npw a 14 = c) (w : World) :
    Calls Try.prog 11 #[.int .u8 (a : Int)] w fun e w' => e = .returned (.int .u8 (c : Nat)) ∧ w' = w := by
  have := ninv_any a w ha
  rw [h] at this
  exact this
theorem npow_to {a c n : Nat} (ha : a < 256) (hn : n < 9223372036854775808) (h : npw a n = c) (w : World) :
    Calls Try.prog 9 #[.int .u8 (a : Int), .int .i64 (n : Int)] w fun e w' => e = .returned (.int .u8 (c : Nat)) ∧ w' = w := by
  have := npow_any a n w ha (by omega)
  rw [npwi_nat, h] at this
  exact this
theorem nmark_to {a c : Nat} (ha : a < 256) (h : nmk a = c) (w : World) :
    Calls Try.prog 13 #[.int .u8 (a : Int)] w fun e w' => e = .returned (.int .u8 (c : Nat)) ∧ w' = w := by
  have := nmark_any a w ha
  rw [h] at this
  exact this
theorem low_int {a : Nat} : ∃ A : Nat, A < 16 ∧ (a : Int) % 16 = (A : Int) := ⟨a % 16, lt16 a, by omega⟩

set_option maxRecDepth 100000 in
set_option maxHeartbeats 2000000 in
theorem nfield_core (x y z : Nat) (w : World) (hx : x < 256) (hy : y < 256) (hz : z < 256) :
    Calls Try.prog 4 #[.int .u8 (x : Int), .int .u8 (y : Int), .int .u8 (z : Int)] w fun e w' => e = .returned (.bool true) ∧ w' = w := by
  obtain ⟨a, ha, ex⟩ := low_int (a := x)
  obtain ⟨b, hb, ey⟩ := low_int (a := y)
  obtain ⟨c, hc, ez⟩ := low_int (a := z)
  have ha8 : a < 256 := by omega
  have hb8 : b < 256 := by omega
  have hc8 : c < 256 := by omega
  obtain ⟨u, f, hf⟩ := half_is a
  have HF := hid hf
  obtain ⟨p, hp⟩ : ∃ p, nm a b = p := ⟨_, rfl⟩
  obtain ⟨q, hq⟩ : ∃ q, nm b c = q := ⟨_, rfl⟩
  obtain ⟨r, hr⟩ : ∃ r, nm a c = r := ⟨_, rfl⟩
  obtain ⟨s, hs⟩ : ∃ s, nm p c = s := ⟨_, rfl⟩
  obtain ⟨t, ht⟩ : ∃ t, b ^^^ c = t := ⟨_, rfl⟩
  obtain ⟨v, hv⟩ : ∃ v, p ^^^ r = v := ⟨_, rfl⟩
  obtain ⟨sa, hsa⟩ : ∃ k, nm a a = k := ⟨_, rfl⟩
  obtain ⟨sb, hsb⟩ : ∃ k, nm b b = k := ⟨_, rfl⟩
  obtain ⟨ss, hss⟩ : ∃ k, sa ^^^ sb = k := ⟨_, rfl⟩
  obtain ⟨ab, hab⟩ : ∃ k, a ^^^ b = k := ⟨_, rfl⟩
  obtain ⟨ma, hma⟩ : ∃ k, nmk a = k := ⟨_, rfl⟩
  obtain ⟨mb, hmb⟩ : ∃ k, nmk b = k := ⟨_, rfl⟩
  obtain ⟨mm, hmm⟩ : ∃ k, ma ^^^ mb = k := ⟨_, rfl⟩
  obtain ⟨i, hi⟩ : ∃ i, npw a 14 = i := ⟨_, rfl⟩
  have lp : p < 256 := by have := nm_lt a b; omega
  have lq : q < 256 := by have := nm_lt b c; omega
  have lr : r < 256 := by have := nm_lt a c; omega
  have lt : t < 256 := by rw [← ht]; exact xor_lt hb8 hc8
  have lsa : sa < 256 := by have := nm_lt a a; omega
  have lsb : sb < 256 := by have := nm_lt b b; omega
  have lab : ab < 256 := by rw [← hab]; exact xor_lt ha8 hb8
  have lma : ma ≤ 1 := by rw [← hma]; exact nmk_le a
  have lmb : mb ≤ 1 := by rw [← hmb]; exact nmk_le b
  have li : i < 256 := by have := npw_lt a 14; omega
  have M1 := hid (nmul_to ha8 hb8 hp)
  have M2 := hid (nmul_to hb8 ha8 ((nm_comm b a).trans hp))
  have M3 := hid (nmul_to hb8 hc8 hq)
  have M4 := hid (nmul_to (c := s) ha8 lq (by rw [← hq, nm_assoc, hp, hs]))
  have M5 := hid (nmul_to lp hc8 hs)
  have M6 := hid (nmul_to (c := v) ha8 lt (by rw [← ht, nm_add, hp, hr, hv]))
  have M7 := hid (nmul_to ha8 hc8 hr)
  have S1 := hid (nsq_to ha8 hsa)
  have S2 := hid (nsq_to hb8 hsb)
  have S3 := hid (nsq_to (c := ss) lab (by rw [← hab, nm_add, add_nm, add_nm, nm_comm b a, hsa, hsb, ← hss, xor4, Nat.xor_comm (nm a b), ← xor4, Nat.xor_self, Nat.xor_zero]))
  have K1 := hid (nmark_to ha8 hma)
  have K2 := hid (nmark_to hb8 hmb)
  have K3 := hid (nmark_to (c := mm) lab (by rw [← hab, nmk_add, hma, hmb, hmm]))
  have X1 : bits .xor .u8 (b : Int) (c : Int) = t := by rw [xor8 hb8 hc8, ht]
  have X2 : bits .xor .u8 (p : Int) (r : Int) = v := by rw [xor8 lp lr, hv]
  have X3 : bits .xor .u8 (a : Int) (b : Int) = ab := by rw [xor8 ha8 hb8, hab]
  have X4 : bits .xor .u8 (sa : Int) (sb : Int) = ss := by rw [xor8 lsa lsb, hss]
  have X5 : bits .xor .u8 (ma : Int) (mb : Int) = mm := by rw [xor8 (by omega) (by omega), hmm]
  have I1 := hid (ninv_to ha8 hi)
  have I2 : Hid (∀ w, Calls Try.prog 9 #[.int .u8 (a : Int), .int .i64 14] w fun e w' => e = .returned (.int .u8 (i : Nat)) ∧ w' = w) := hid (npow_to ha8 (by decide) hi)
  have hmf : ((ma : Int) == 1) = !f := by
    cases f with
    | true => have := (hf.1 rfl).2.2.2; rw [hma] at this; subst this; rfl
    | false => have := (hf.2 rfl).2.2; rw [hma] at this; subst this; rfl
  by_cases h0 : a = 0
  · have hb0 : ((a : Int) == 0) = true := eqT (y := 0) h0
    clear hp hq hr hs ht hv hsa hsb hss hab hma hmb hmm hi hf h0
    go_enter Try.func4, Try.ntmps4
    go_wp2_with (first
      | (go_at_call 6; (with_reducible refine (M1.out _).mono ?_); rintro e w1 ⟨rfl, rfl⟩)
      | (go_at_call 6; (with_reducible refine (M2.out _).mono ?_); rintro e w1 ⟨rfl, rfl⟩)
      | (go_at_call 6; (with_reducible refine (M3.out _).mono ?_); rintro e w1 ⟨rfl, rfl⟩)
      | (go_at_call 6; (with_reducible refine (M4.out _).mono ?_); rintro e w1 ⟨rfl, rfl⟩)
      | (go_at_call 6; (with_reducible refine (M5.out _).mono ?_); rintro e w1 ⟨rfl, rfl⟩)
      | (go_at_call 6; (with_reducible refine (M6.out _).mono ?_); rintro e w1 ⟨rfl, rfl⟩)
      | (go_at_call 6; (with_reducible refine (M7.out _).mono ?_); rintro e w1 ⟨rfl, rfl⟩)
      | (go_at_call 8; (with_reducible refine (S1.out _).mono ?_); rintro e w1 ⟨rfl, rfl⟩)
      | (go_at_call 8; (with_reducible refine (S2.out _).mono ?_); rintro e w1 ⟨rfl, rfl⟩)
      | (go_at_call 8; (with_reducible refine (S3.out _).mono ?_); rintro e w1 ⟨rfl, rfl⟩)
      | (go_at_call 13; (with_reducible refine (K1.out _).mono ?_); rintro e w1 ⟨rfl, rfl⟩)
      | (go_at_call 13; (with_reducible refine (K2.out _).mono ?_); rintro e w1 ⟨rfl, rfl⟩)
      | (go_at_call 13; (with_reducible refine (K3.out _).mono ?_); rintro e w1 ⟨rfl, rfl⟩)
      | (go_at_call 15; (with_reducible refine (napart_any a u f _ ha8 HF.out).mono ?_); rintro e w1 ⟨rfl, rfl⟩)
      | (go_at_call 11; (with_reducible refine (I1.out _).mono ?_); rintro e w1 ⟨rfl, rfl⟩)
      | (go_at_call 9; (with_reducible refine (I2.out _).mono ?_); rintro e w1 ⟨rfl, rfl⟩)
      | (go_at_call 17; (with_reducible refine (nawake_any _).mono ?_); rintro e w1 ⟨rfl, rfl⟩))
    go_ret
    exact ⟨rfl, rfl⟩
  · have hb0 : ((a : Int) == 0) = false := eqF (y := 0) h0
    have I4 : Hid (∀ w, Calls Try.prog 6 #[.int .u8 (a : Int), .int .u8 (i : Int)] w fun e w' => e = .returned (.int .u8 1) ∧ w' = w) := hid (nmul_to ha8 li (by rw [← hi]; exact nm_inv (by omega)))
    clear hp hq hr hs ht hv hsa hsb hss hab hma hmb hmm hi hf h0
    go_enter Try.func4, Try.ntmps4
    go_wp2_with (first
      | (go_at_call 6; (with_reducible refine (M1.out _).mono ?_); rintro e w1 ⟨rfl, rfl⟩)
      | (go_at_call 6; (with_reducible refine (M2.out _).mono ?_); rintro e w1 ⟨rfl, rfl⟩)
      | (go_at_call 6; (with_reducible refine (M3.out _).mono ?_); rintro e w1 ⟨rfl, rfl⟩)
      | (go_at_call 6; (with_reducible refine (M4.out _).mono ?_); rintro e w1 ⟨rfl, rfl⟩)
      | (go_at_call 6; (with_reducible refine (M5.out _).mono ?_); rintro e w1 ⟨rfl, rfl⟩)
      | (go_at_call 6; (with_reducible refine (M6.out _).mono ?_); rintro e w1 ⟨rfl, rfl⟩)
      | (go_at_call 6; (with_reducible refine (M7.out _).mono ?_); rintro e w1 ⟨rfl, rfl⟩)
      | (go_at_call 6; (with_reducible refine (I4.out _).mono ?_); rintro e w1 ⟨rfl, rfl⟩)
      | (go_at_call 8; (with_reducible refine (S1.out _).mono ?_); rintro e w1 ⟨rfl, rfl⟩)
      | (go_at_call 8; (with_reducible refine (S2.out _).mono ?_); rintro e w1 ⟨rfl, rfl⟩)
      | (go_at_call 8; (with_reducible refine (S3.out _).mono ?_); rintro e w1 ⟨rfl, rfl⟩)
      | (go_at_call 13; (with_reducible refine (K1.out _).mono ?_); rintro e w1 ⟨rfl, rfl⟩)
      | (go_at_call 13; (with_reducible refine (K2.out _).mono ?_); rintro e w1 ⟨rfl, rfl⟩)
      | (go_at_call 13; (with_reducible refine (K3.out _).mono ?_); rintro e w1 ⟨rfl, rfl⟩)
      | (go_at_call 15; (with_reducible refine (napart_any a u f _ ha8 HF.out).mono ?_); rintro e w1 ⟨rfl, rfl⟩)
      | (go_at_call 11; (with_reducible refine (I1.out _).mono ?_); rintro e w1 ⟨rfl, rfl⟩)
      | (go_at_call 9; (with_reducible refine (I2.out _).mono ?_); rintro e w1 ⟨rfl, rfl⟩)
      | (go_at_call 17; (with_reducible refine (nawake_any _).mono ?_); rintro e w1 ⟨rfl, rfl⟩))
    go_ret
    exact ⟨rfl, rfl⟩
end Go.Proofs.Ytaalfbdlefmaoaa
