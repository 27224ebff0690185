import Derived.Test.YtdbfgjpijibkfaaProg
import Derived.Test.YtdbfgjpijibkfaaGfe
namespace Go.Proofs.Ytdbfgjpijibkfaa
open Go.RowKit

/-- A product that is known. -/
theorem mul_to {a b c : Nat} (ha : a < 256) (hb : b < 256) (h : gm a b = c) (w : World) :
    Calls Try.prog 8 #[.int .u8 (a : Int), .int .u8 (b : Int)] w fun e w' => e = .returned (.int .u8 (c : Nat)) ∧ w' = w := by
  have := mul_any a b w ha hb
  rw [h] at this
  exact this
theorem inv_to {a c : Nat} (ha : a < 256) (h : pw a 254 = c) (w : World) :
    Calls Try.prog 11 #[.int .u8 (a : Int)] w fun e w' => e = .returned (.int .u8 (c : Nat)) ∧ w' = w := by
  have := inv_any a w ha
  rw [h] at this
  exact this
theorem pow_to {a c n : Nat} (ha : a < 256) (hn : n < 9223372036854775808) (h : pw a n = c) (w : World) :
    Calls Try.prog 9 #[.int .u8 (a : Int), .int .i64 (n : Int)] w fun e w' => e = .returned (.int .u8 (c : Nat)) ∧ w' = w := by
  have := pow_any a n w ha (by omega)
  rw [pwi_nat, h] at this
  exact this

set_option maxRecDepth 100000 in
set_option maxHeartbeats 2000000 in
theorem field_core (a b c : Nat) (w : World) (ha : a < 256) (hb : b < 256) (hc : c < 256) :
    Calls Try.prog 4 #[.int .u8 (a : Int), .int .u8 (b : Int), .int .u8 (c : Int)] w fun e w' => e = .returned (.bool true) ∧ w' = w := by
  obtain ⟨d, hz, hd, ho, _⟩ := order_all a ha
  have HO := hid ho
  obtain ⟨p, hp⟩ : ∃ p, gm a b = p := ⟨_, rfl⟩
  obtain ⟨q, hq⟩ : ∃ q, gm b c = q := ⟨_, rfl⟩
  obtain ⟨r, hr⟩ : ∃ r, gm a c = r := ⟨_, rfl⟩
  obtain ⟨s, hs⟩ : ∃ s, gm p c = s := ⟨_, rfl⟩
  obtain ⟨x, hx⟩ : ∃ x, b ^^^ c = x := ⟨_, rfl⟩
  obtain ⟨y, hy⟩ : ∃ y, p ^^^ r = y := ⟨_, rfl⟩
  have lp : p < 256 := by rw [← hp]; exact gm_lt ha
  have lq : q < 256 := by rw [← hq]; exact gm_lt hb
  have lr : r < 256 := by rw [← hr]; exact gm_lt ha
  have lx : x < 256 := by rw [← hx]; exact xor_lt hb hc
  have M1 := hid (mul_to ha hb hp)
  have M2 := hid (mul_to hb ha ((gm_comm hb ha).trans hp))
  have M3 := hid (mul_to hb hc hq)
  have M4 := hid (mul_to (c := s) ha lq (by rw [← hq, gm_assoc ha hb hc, hp, hs]))
  have M5 := hid (mul_to lp hc hs)
  have M6 := hid (mul_to (c := y) ha lx (by rw [← hx, gm_add, hp, hr, hy]))
  have M7 := hid (mul_to ha hc hr)
  have X1 : bits .xor .u8 (b : Int) (c : Int) = x := by rw [xor8 hb hc, hx]
  have X2 : bits .xor .u8 (p : Int) (r : Int) = y := by rw [xor8 lp lr, hy]
  clear hp hq hr hs hx hy ho
  by_cases h0 : a = 0
  · have hb0 : ((a : Int) == 0) = true := eqT (y := 0) h0
    have I1 : Hid (∀ w, Calls Try.prog 11 #[.int .u8 (a : Int)] w fun e w' => e = .returned (.int .u8 0) ∧ w' = w) :=
      hid (inv_to ha (by rw [h0]; exact pw_zero (by decide)))
    have HO2 : Hid (∀ w, Calls Try.prog 13 #[.int .u8 (a : Int)] w fun e w' => e = .returned (.int .i64 0) ∧ w' = w) := hid (by
      have := HO.out; rw [hz h0] at this; exact this)
    clear hz hd HO h0
    go_enter Try.func4, Try.ntmps4
    go_wp2_with (first
      | (go_at_call 8; (with_reducible refine (M1.out _).mono ?_); rintro e w1 ⟨rfl, rfl⟩)
      | (go_at_call 8; (with_reducible refine (M2.out _).mono ?_); rintro e w1 ⟨rfl, rfl⟩)
      | (go_at_call 8; (with_reducible refine (M3.out _).mono ?_); rintro e w1 ⟨rfl, rfl⟩)
      | (go_at_call 8; (with_reducible refine (M4.out _).mono ?_); rintro e w1 ⟨rfl, rfl⟩)
      | (go_at_call 8; (with_reducible refine (M5.out _).mono ?_); rintro e w1 ⟨rfl, rfl⟩)
      | (go_at_call 8; (with_reducible refine (M6.out _).mono ?_); rintro e w1 ⟨rfl, rfl⟩)
      | (go_at_call 8; (with_reducible refine (M7.out _).mono ?_); rintro e w1 ⟨rfl, rfl⟩)
      | (go_at_call 8; (with_reducible refine (mul1_any a _ ha).mono ?_); rintro e w1 ⟨rfl, rfl⟩)
      | (go_at_call 13; (with_reducible refine (HO2.out _).mono ?_); rintro e w1 ⟨rfl, rfl⟩)
      | (go_at_call 11; (with_reducible refine (I1.out _).mono ?_); rintro e w1 ⟨rfl, rfl⟩)
      | (go_at_call 15; (with_reducible refine (awake_any _).mono ?_); rintro e w1 ⟨rfl, rfl⟩))
    go_ret
    exact ⟨rfl, rfl⟩
  · have hb0 : ((a : Int) == 0) = false := eqF (y := 0) h0
    have hD := hd h0
    have d1 := hD.1
    have d2 := hD.2.1
    have hdiv : (255 : Int) % (d : Int) = 0 := by
      have e : ((255 % d : Nat) : Int) = (255 : Int) % (d : Int) := Int.natCast_emod 255 d
      rw [← e, hD.divides ha]; rfl
    have hdz : ((d : Int) == 0) = false := eqF (y := 0) (by omega)
    obtain ⟨v, hv⟩ : ∃ v, pw a 254 = v := ⟨_, rfl⟩
    have lv : v < 256 := by rw [← hv]; exact pw_lt ha _
    have I1 := hid (inv_to ha hv)
    have I2 : Hid (∀ w, Calls Try.prog 9 #[.int .u8 (a : Int), .int .i64 254] w fun e w' => e = .returned (.int .u8 (v : Nat)) ∧ w' = w) := hid (pow_to ha (by decide) hv)
    have I3 : Hid (∀ w, Calls Try.prog 9 #[.int .u8 (a : Int), .int .i64 (d : Int)] w fun e w' => e = .returned (.int .u8 1) ∧ w' = w) := hid (pow_to ha (by omega) hD.2.2.1)
    have I4 : Hid (∀ w, Calls Try.prog 8 #[.int .u8 (a : Int), .int .u8 (v : Int)] w fun e w' => e = .returned (.int .u8 1) ∧ w' = w) := hid (mul_to ha lv (by rw [← hv]; exact gm_inv ha h0))
    clear hz hd hD h0 hv
    go_enter Try.func4, Try.ntmps4
    go_wp2_with (first
      | (go_at_call 8; (with_reducible refine (M1.out _).mono ?_); rintro e w1 ⟨rfl, rfl⟩)
      | (go_at_call 8; (with_reducible refine (M2.out _).mono ?_); rintro e w1 ⟨rfl, rfl⟩)
      | (go_at_call 8; (with_reducible refine (M3.out _).mono ?_); rintro e w1 ⟨rfl, rfl⟩)
      | (go_at_call 8; (with_reducible refine (M4.out _).mono ?_); rintro e w1 ⟨rfl, rfl⟩)
      | (go_at_call 8; (with_reducible refine (M5.out _).mono ?_); rintro e w1 ⟨rfl, rfl⟩)
      | (go_at_call 8; (with_reducible refine (M6.out _).mono ?_); rintro e w1 ⟨rfl, rfl⟩)
      | (go_at_call 8; (with_reducible refine (M7.out _).mono ?_); rintro e w1 ⟨rfl, rfl⟩)
      | (go_at_call 8; (with_reducible refine (mul1_any a _ ha).mono ?_); rintro e w1 ⟨rfl, rfl⟩)
      | (go_at_call 13; (with_reducible refine (HO.out _).mono ?_); rintro e w1 ⟨rfl, rfl⟩)
      | (go_at_call 11; (with_reducible refine (I1.out _).mono ?_); rintro e w1 ⟨rfl, rfl⟩)
      | (go_at_call 9; (with_reducible refine (I2.out _).mono ?_); rintro e w1 ⟨rfl, rfl⟩)
      | (go_at_call 9; (with_reducible refine (I3.out _).mono ?_); rintro e w1 ⟨rfl, rfl⟩)
      | (go_at_call 8; (with_reducible refine (I4.out _).mono ?_); rintro e w1 ⟨rfl, rfl⟩)
      | (go_at_call 15; (with_reducible refine (awake_any _).mono ?_); rintro e w1 ⟨rfl, rfl⟩))
    go_ret
    exact ⟨rfl, rfl⟩

theorem exp_to {n : Int} {c : Nat} (h : ex n = c) (w : World) :
    Calls Try.prog 17 #[.int .i64 n] w fun e w' => e = .returned (.int .u8 (c : Nat)) ∧ w' = w := by
  have := exp_any n w
  rw [h] at this
  exact this
theorem refexp_to {n : Int} {c : Nat} (h : ex n = c) (w : World) :
    Calls Try.prog 18 #[.int .i64 n] w fun e w' => e = .returned (.int .u8 (c : Nat)) ∧ w' = w := by
  have := refexp_any n w
  rw [h] at this
  exact this
theorem sqrt_to {a c : Nat} (ha : a < 256) (h : pw a 128 = c) (w : World) :
    Calls Try.prog 19 #[.int .u8 (a : Int)] w fun e w' => e = .returned (.int .u8 (c : Nat)) ∧ w' = w := by
  have := sqrt_any a w ha
  rw [h] at this
  exact this

set_option maxRecDepth 100000 in
set_option maxHeartbeats 4000000 in
theorem logs_core (a b : Nat) (n : Int) (w : World) (ha : a < 256) (hb : b < 256) :
    Calls Try.prog 5 #[.int .u8 (a : Int), .int .u8 (b : Int), .int .i64 n] w fun e w' => e = .returned (.bool true) ∧ w' = w := by
  obtain ⟨l, f, z1, z2, ho⟩ := log_all a ha
  obtain ⟨m, g, y1, y2, hr⟩ := log_all b hb
  have HL := hid ho
  have HM := hid hr
  clear ho hr
  obtain ⟨u, hu⟩ : ∃ u, ex n = u := ⟨_, rfl⟩
  have E1 := hid (exp_to hu)
  have E2 := hid (refexp_to hu)
  obtain ⟨r, hr⟩ : ∃ r, pw a 128 = r := ⟨_, rfl⟩
  have lr : r < 256 := by rw [← hr]; exact pw_lt ha _
  have S1 := hid (sqrt_to ha hr)
  have S2 := hid (mul_to lr lr (show gm r r = a by rw [← hr, ← pw_add ha]; exact pw_256 ha))
  clear hu hr
  by_cases h0 : a = 0
  · obtain ⟨rfl, rfl⟩ := z1 h0
    have hb0 : ((a : Int) != 0) = false := neF (y := 0) h0
    have HL2 : Hid (∀ w, Calls Try.prog 16 #[.int .u8 (a : Int)] w fun e w' => e = .returned (.tuple #[.int .i64 0, .bool false]) ∧ w' = w) := hid HL.out
    clear z1 z2 h0 HL
    by_cases h1 : b = 0
    · obtain ⟨rfl, rfl⟩ := y1 h1
      have hb1 : ((b : Int) != 0) = false := neF (y := 0) h1
      have HM2 : Hid (∀ w, Calls Try.prog 16 #[.int .u8 (b : Int)] w fun e w' => e = .returned (.tuple #[.int .i64 0, .bool false]) ∧ w' = w) := hid HM.out
      clear y1 y2 h1 HM
      go_enter Try.func5, Try.ntmps5
      go_wp2_with (first
        | (go_at_call 16; (with_reducible refine (HL2.out _).mono ?_); rintro e w1 ⟨rfl, rfl⟩)
        | (go_at_call 16; (with_reducible refine (HM2.out _).mono ?_); rintro e w1 ⟨rfl, rfl⟩)
        | (go_at_call 17; (with_reducible refine (E1.out _).mono ?_); rintro e w1 ⟨rfl, rfl⟩)
        | (go_at_call 18; (with_reducible refine (E2.out _).mono ?_); rintro e w1 ⟨rfl, rfl⟩)
        | (go_at_call 19; (with_reducible refine (S1.out _).mono ?_); rintro e w1 ⟨rfl, rfl⟩)
        | (go_at_call 8; (with_reducible refine (S2.out _).mono ?_); rintro e w1 ⟨rfl, rfl⟩)
        | (go_at_call 15; (with_reducible refine (awake_any _).mono ?_); rintro e w1 ⟨rfl, rfl⟩))
      go_ret
      exact ⟨rfl, rfl⟩
    · obtain ⟨hm, rfl⟩ := y2 h1
      have hb1 : ((b : Int) != 0) = true := neT (y := 0) h1
      clear y1 y2 h1 hm
      go_enter Try.func5, Try.ntmps5
      go_wp2_with (first
        | (go_at_call 16; (with_reducible refine (HL2.out _).mono ?_); rintro e w1 ⟨rfl, rfl⟩)
        | (go_at_call 16; (with_reducible refine (HM.out _).mono ?_); rintro e w1 ⟨rfl, rfl⟩)
        | (go_at_call 17; (with_reducible refine (E1.out _).mono ?_); rintro e w1 ⟨rfl, rfl⟩)
        | (go_at_call 18; (with_reducible refine (E2.out _).mono ?_); rintro e w1 ⟨rfl, rfl⟩)
        | (go_at_call 19; (with_reducible refine (S1.out _).mono ?_); rintro e w1 ⟨rfl, rfl⟩)
        | (go_at_call 8; (with_reducible refine (S2.out _).mono ?_); rintro e w1 ⟨rfl, rfl⟩)
        | (go_at_call 15; (with_reducible refine (awake_any _).mono ?_); rintro e w1 ⟨rfl, rfl⟩))
      go_ret
      exact ⟨rfl, rfl⟩
  · obtain ⟨hl, rfl⟩ := z2 h0
    have hb0 : ((a : Int) != 0) = true := neT (y := 0) h0
    clear z1 z2 h0
    by_cases h1 : b = 0
    · obtain ⟨rfl, rfl⟩ := y1 h1
      have hb1 : ((b : Int) != 0) = false := neF (y := 0) h1
      have HM2 : Hid (∀ w, Calls Try.prog 16 #[.int .u8 (b : Int)] w fun e w' => e = .returned (.tuple #[.int .i64 0, .bool false]) ∧ w' = w) := hid HM.out
      clear y1 y2 h1 HM hl
      go_enter Try.func5, Try.ntmps5
      go_wp2_with (first
        | (go_at_call 16; (with_reducible refine (HL.out _).mono ?_); rintro e w1 ⟨rfl, rfl⟩)
        | (go_at_call 16; (with_reducible refine (HM2.out _).mono ?_); rintro e w1 ⟨rfl, rfl⟩)
        | (go_at_call 17; (with_reducible refine (E1.out _).mono ?_); rintro e w1 ⟨rfl, rfl⟩)
        | (go_at_call 18; (with_reducible refine (E2.out _).mono ?_); rintro e w1 ⟨rfl, rfl⟩)
        | (go_at_call 19; (with_reducible refine (S1.out _).mono ?_); rintro e w1 ⟨rfl, rfl⟩)
        | (go_at_call 8; (with_reducible refine (S2.out _).mono ?_); rintro e w1 ⟨rfl, rfl⟩)
        | (go_at_call 15; (with_reducible refine (awake_any _).mono ?_); rintro e w1 ⟨rfl, rfl⟩))
      go_ret
      exact ⟨rfl, rfl⟩
    · obtain ⟨hm, rfl⟩ := y2 h1
      have hb1 : ((b : Int) != 0) = true := neT (y := 0) h1
      clear y1 y2 h1
      have l1 := hl.1
      have m1 := hm.1
      obtain ⟨p, hp⟩ : ∃ p, gm a b = p := ⟨_, rfl⟩
      have T1 := hid (mul_to ha hb hp)
      have T2 : Hid (∀ w, Calls Try.prog 18 #[.int .i64 ((l : Int) + (m : Int))] w fun e w' => e = .returned (.int .u8 (p : Nat)) ∧ w' = w) :=
        hid (refexp_to (show ex ((l : Int) + (m : Int)) = p by
          rw [show (l : Int) + (m : Int) = ((l + m : Nat) : Int) by omega, ex_nat, pw_add (by decide), hl.2.1, hm.2.1, hp]))
      have T3 := hid (exp_to (show ex (l : Int) = a by rw [ex_nat]; exact hl.2.1))
      obtain ⟨t, ht⟩ : ∃ t : Bool, ((l : Int) == (m : Int)) = t := ⟨_, rfl⟩
      have ht2 : ((a : Int) == (b : Int)) = t := by
        rw [← ht]
        by_cases e : a = b
        · subst e; rw [hl.only hm]; simp
        · rw [eqF e, eqF]; intro e2; exact e (by rw [← hl.2.1, e2, hm.2.1])
      clear hp hl hm
      go_enter Try.func5, Try.ntmps5
      go_wp2_with (first
        | (go_at_call 16; (with_reducible refine (HL.out _).mono ?_); rintro e w1 ⟨rfl, rfl⟩)
        | (go_at_call 16; (with_reducible refine (HM.out _).mono ?_); rintro e w1 ⟨rfl, rfl⟩)
        | (go_at_call 17; (with_reducible refine (E1.out _).mono ?_); rintro e w1 ⟨rfl, rfl⟩)
        | (go_at_call 18; (with_reducible refine (E2.out _).mono ?_); rintro e w1 ⟨rfl, rfl⟩)
        | (go_at_call 17; (with_reducible refine (T3.out _).mono ?_); rintro e w1 ⟨rfl, rfl⟩)
        | (go_at_call 18; (with_reducible refine (T2.out _).mono ?_); rintro e w1 ⟨rfl, rfl⟩)
        | (go_at_call 19; (with_reducible refine (S1.out _).mono ?_); rintro e w1 ⟨rfl, rfl⟩)
        | (go_at_call 8; (with_reducible refine (S2.out _).mono ?_); rintro e w1 ⟨rfl, rfl⟩)
        | (go_at_call 8; (with_reducible refine (T1.out _).mono ?_); rintro e w1 ⟨rfl, rfl⟩)
        | (go_at_call 15; (with_reducible refine (awake_any _).mono ?_); rintro e w1 ⟨rfl, rfl⟩))
      go_ret
      exact ⟨rfl, rfl⟩
end Go.Proofs.Ytdbfgjpijibkfaa
