import Derived.Test.YtfomgomdhejfbaaProg
import Derived.Test.YtfomgomdhejfbaaTwa
import Derived.Test.YtfomgomdhejfbaaNbc
namespace Go.Proofs.Ytfomgomdhejfbaa
open Go.RowKit

theorem tno_any (a : Nat) (w : World) (ha : a < 256) :
    Calls Try.prog 13 #[.int .u8 (a : Int)] w fun e w' => e = .returned (.int .u8 (tno a : Nat)) ∧ w' = w := by
  have HT : Hid (tno a = (nm 8 (nm (a / 16) (a / 16)) ^^^ nm (a / 16) (a % 16)) ^^^ nm (a % 16) (a % 16)) := hid rfl
  have SA := hid (fun w => split_any a w ha)
  obtain ⟨a1, h1⟩ : ∃ x, a / 16 = x := ⟨_, rfl⟩
  obtain ⟨a0, h2⟩ : ∃ x, a % 16 = x := ⟨_, rfl⟩
  have k1 : a1 < 16 := by omega
  have k2 : a0 < 16 := by omega
  rw [h1, h2] at HT
  rw [h1, h2] at SA
  clear h1 h2
  obtain ⟨s, hs⟩ : ∃ x, nm a1 a1 = x := ⟨_, rfl⟩
  obtain ⟨t, ht⟩ : ∃ x, nm 8 s = x := ⟨_, rfl⟩
  obtain ⟨p, hp⟩ : ∃ x, nm a1 a0 = x := ⟨_, rfl⟩
  obtain ⟨q, hq⟩ : ∃ x, nm a0 a0 = x := ⟨_, rfl⟩
  have js : s < 16 := hs ▸ nm_lt _ _
  have jp : p < 16 := hp ▸ nm_lt _ _
  have jq : q < 16 := hq ▸ nm_lt _ _
  have jt : t < 16 := ht ▸ nm_lt _ _
  rw [hs, hp, hq, ht] at HT
  have S1 := hid (fun w => nsq_to (a := a1) (by omega) hs w)
  have S0 := hid (fun w => nsq_to (a := a0) (by omega) hq w)
  have N1 : Hid (∀ w, Calls Try.prog 29 #[.int .u8 8, .int .u8 (s : Int)] w fun e w' => e = .returned (.int .u8 (t : Nat)) ∧ w' = w) := hid (fun w => nmul_to (a := 8) (b := s) (by omega) (by omega) ht w)
  have N2 := hid (fun w => nmul_to (a := a1) (b := a0) (by omega) (by omega) hp w)
  clear hs hp hq ht
  have X := hid (show bits .xor .u8 (bits .xor .u8 (t : Int) (p : Int)) (q : Int) = (((t ^^^ p) ^^^ q : Nat) : Int) by rw [xor8 (by omega) (by omega), xor8 (xor_lt (by omega) (by omega)) (by omega)])
  go_enter Try.func13, Try.ntmps13
  go_wp2_with (first
    | (go_at_call 28; (with_reducible refine (SA.out _).mono ?_); rintro e w1 ⟨rfl, rfl⟩)
    | (go_at_call 31; (with_reducible refine (S1.out _).mono ?_); rintro e w1 ⟨rfl, rfl⟩)
    | (go_at_call 31; (with_reducible refine (S0.out _).mono ?_); rintro e w1 ⟨rfl, rfl⟩)
    | (go_at_call 29; (with_reducible refine (N1.out _).mono ?_); rintro e w1 ⟨rfl, rfl⟩)
    | (go_at_call 29; (with_reducible refine (N2.out _).mono ?_); rintro e w1 ⟨rfl, rfl⟩))
  go_ret
  exact ⟨ret_int (by rw [HT.out, X.out]), rfl⟩

theorem tinv_any (a : Nat) (w : World) (ha : a < 256) :
    Calls Try.prog 14 #[.int .u8 (a : Int)] w fun e w' => e = .returned (.int .u8 (ti a : Nat)) ∧ w' = w := by
  have HT : Hid (ti a = jn (nm (a / 16) (npw (tno a) 14)) (nm (a / 16 ^^^ a % 16) (npw (tno a) 14))) := hid rfl
  have SA := hid (fun w => split_any a w ha)
  have NO := hid (fun w => tno_any a w ha)
  have hn : tno a < 16 := tno_lt a
  obtain ⟨n, hn'⟩ : ∃ x, tno a = x := ⟨_, rfl⟩
  rw [hn'] at HT NO hn
  obtain ⟨d, hd⟩ : ∃ x, npw n 14 = x := ⟨_, rfl⟩
  have kd : d < 16 := hd ▸ npw_lt _ _
  have NI := hid (fun w => ninv_to (a := n) (by omega) hd w)
  rw [hd] at HT
  clear hd hn'
  obtain ⟨a1, h1⟩ : ∃ x, a / 16 = x := ⟨_, rfl⟩
  obtain ⟨a0, h2⟩ : ∃ x, a % 16 = x := ⟨_, rfl⟩
  have k1 : a1 < 16 := by omega
  have k2 : a0 < 16 := by omega
  rw [h1, h2] at HT SA
  clear h1 h2
  obtain ⟨p, hp⟩ : ∃ x, nm a1 d = x := ⟨_, rfl⟩
  obtain ⟨q, hq⟩ : ∃ x, nm (a1 ^^^ a0) d = x := ⟨_, rfl⟩
  have jp : p < 16 := hp ▸ nm_lt _ _
  have jq : q < 16 := hq ▸ nm_lt _ _
  rw [hp, hq] at HT
  have N1 := hid (fun w => nmul_to (a := a1) (b := d) (by omega) (by omega) hp w)
  have N2 := hid (fun w => nmul_to (a := a1 ^^^ a0) (b := d) (xor_lt (by omega) (by omega)) (by omega) hq w)
  rw [← xor8 (by omega) (by omega)] at N2
  clear hp hq
  go_enter Try.func14, Try.ntmps14
  go_wp2_with (first
    | (go_at_call 28; (with_reducible refine (SA.out _).mono ?_); rintro e w1 ⟨rfl, rfl⟩)
    | (go_at_call 13; (with_reducible refine (NO.out _).mono ?_); rintro e w1 ⟨rfl, rfl⟩)
    | (go_at_call 23; (with_reducible refine (NI.out _).mono ?_); rintro e w1 ⟨rfl, rfl⟩)
    | (go_at_call 29; (with_reducible refine (N1.out _).mono ?_); rintro e w1 ⟨rfl, rfl⟩)
    | (go_at_call 29; (with_reducible refine (N2.out _).mono ?_); rintro e w1 ⟨rfl, rfl⟩)
    | (go_at_call 30; (with_reducible refine (join_any p q _ jp jq).mono ?_); rintro e w1 ⟨rfl, rfl⟩))
  go_ret
  exact ⟨ret_int (by rw [HT.out]), rfl⟩

theorem tmul_to {a b c : Nat} (ha : a < 256) (hb : b < 256) (h : tm a b = c) (w : World) :
    Calls Try.prog 11 #[.int .u8 (a : Int), .int .u8 (b : Int)] w fun e w' => e = .returned (.int .u8 (c : Nat)) ∧ w' = w := by
  have := tmul_any a b w ha hb
  rw [h] at this
  exact this
theorem trefmul_to {a b c : Nat} (ha : a < 256) (hb : b < 256) (h : tm a b = c) (w : World) :
    Calls Try.prog 12 #[.int .u8 (a : Int), .int .u8 (b : Int)] w fun e w' => e = .returned (.int .u8 (c : Nat)) ∧ w' = w := by
  have := trefmul_any a b w ha hb
  rw [h] at this
  exact this

set_option maxRecDepth 20000 in
theorem trefinv_any (a : Nat) (w : World) (ha : a < 256) :
    Calls Try.prog 15 #[.int .u8 (a : Int)] w fun e w' => e = .returned (.int .u8 (ti a : Nat)) ∧ w' = w := by
  have HM := hid (fun b w (hb : b < 256) => trefmul_any a b w ha hb)
  have HL := hid (tm_lt a)
  have HO := hid (fun b (hb : b < 256) (h : tm a b = 1) => ti_only ha hb h)
  have HI := hid (fun h0 : a ≠ 0 => (⟨tm_ti ha h0, ti_lt a, ti_pos ha h0⟩ : tm a (ti a) = 1 ∧ ti a < 256 ∧ 1 ≤ ti a))
  have HZ := hid (fun h0 : a = 0 => show ti a = 0 from h0 ▸ ti_zero)
  generalize ti a = v at *
  go_enter Try.func15, Try.ntmps15
  go_wp2
  go_loop [3] (fun i => ∃ j : Nat, 1 ≤ j ∧ j ≤ 256 ∧ (a ≠ 0 → j ≤ v) ∧ i = .int .i64 j) (fun i => 256 - (intOf i).toNat)
  case atStart => exact ⟨1, by omega, by omega, fun h => (HI.out h).2.2, rfl⟩
  case round =>
    obtain ⟨j, hj1, hj, hv, rfl⟩ := hrel
    have HV := hid hv
    clear hv
    by_cases h8 : j < 256
    · by_cases hm : tm a j = 1
      · have HE := hid (HO.out j h8 hm)
        have MM : Hid (∀ w, Calls Try.prog 12 #[.int .u8 (a : Int), .int .u8 (j : Int)] w fun e w' => e = .returned (.int .u8 1) ∧ w' = w) := hid (fun w => trefmul_to ha h8 hm w)
        clear hm
        go_wp2_with (first | (go_at_call 12; (with_reducible refine (MM.out _).mono ?_); rintro e w1 ⟨rfl, rfl⟩))
        go_ret
        exact ⟨ret_int (by rw [HE.out]), rfl⟩
      · obtain ⟨c, hc⟩ : ∃ c, tm a j = c := ⟨_, rfl⟩
        have MM := hid (fun w => trefmul_to ha h8 hc w)
        have hb : ((c : Int) == 1) = false := eqF (y := 1) (by rw [← hc]; exact hm)
        have HV2 : Hid (a ≠ 0 → j + 1 ≤ v) := hid (fun h => by
          have h1 := HV.out h
          have h2 := (HI.out h).1
          by_cases e : j = v
          · rw [← e] at h2; exact absurd h2 hm
          · omega)
        clear hm hc
        go_wp2_with (first | (go_at_call 12; (with_reducible refine (MM.out _).mono ?_); rintro e w1 ⟨rfl, rfl⟩))
        go_round
        case rel => exact ⟨j + 1, by omega, by omega, HV2.out, by go_num⟩
        case measure => simp [intOf]; omega
    · have HE : Hid (v = 0) := hid (HZ.out (by
        by_cases e : a = 0
        · exact e
        · have h1 := HV.out e
          have h2 := (HI.out e).2.1
          omega))
      go_wp2
      go_ret
      exact ⟨ret_int (by rw [HE.out]; rfl), rfl⟩

theorem tpow_any (a n : Nat) (w : World) (ha : a < 256) (hn : n < 9223372036854775807) :
    Calls Try.prog 33 #[.int .u8 (a : Int), .int .i64 (n : Int)] w fun e w' => e = .returned (.int .u8 (tp a n : Nat)) ∧ w' = w := by
  have HS := hid (fun j => show tm (tp a j) a = tp a (j + 1) from rfl)
  have HL := hid (tp_lt a)
  have H0 := hid (show tp a 0 = 1 from rfl)
  generalize tp a = f at *
  go_enter Try.func33, Try.ntmps33
  go_wp2
  go_loop [5, 6] (fun x i => ∃ j p : Nat, j ≤ n ∧ p < 256 ∧ Hid (p = f j) ∧ i = .int .i64 j ∧ x = .int .u8 p) (fun _ i => n - (intOf i).toNat)
  case atStart => exact ⟨0, 1, by omega, by omega, hid H0.out.symm, rfl, rfl⟩
  case round =>
    obtain ⟨j, p, hj, hp, HP, rfl, rfl⟩ := hrel
    by_cases h8 : j < n
    · have hm := HS.out j
      rw [← HP.out] at hm
      have MM := hid (fun w => trefmul_to hp ha hm w)
      have hl := HL.out (j + 1)
      clear hm
      obtain ⟨q, hq⟩ : ∃ q, f (j + 1) = q := ⟨_, rfl⟩
      rw [hq] at MM hl
      have HQ := hid hq.symm
      clear hq
      go_wp2_with (first | (go_at_call 12; (with_reducible refine (MM.out _).mono ?_); rintro e w1 ⟨rfl, rfl⟩))
      go_round
      case rel => exact ⟨j + 1, q, by omega, hl, HQ, by go_num, rfl⟩
      case measure => simp [intOf]; omega
    · obtain rfl : j = n := by omega
      go_wp2
      go_ret
      exact ⟨ret_int (by rw [HP.out]), rfl⟩
theorem tpow_to {a c n : Nat} (ha : a < 256) (hn : n < 9223372036854775807) (h : tp a n = c) (w : World) :
    Calls Try.prog 33 #[.int .u8 (a : Int), .int .i64 (n : Int)] w fun e w' => e = .returned (.int .u8 (c : Nat)) ∧ w' = w := by
  have := tpow_any a n w ha hn
  rw [h] at this
  exact this
end Go.Proofs.Ytfomgomdhejfbaa
