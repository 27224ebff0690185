import Derived.Test.YtoicanbgaghpcaaProg
import Derived.Test.YtoicanbgaghpcaaLib
namespace Go.Proofs.Ytoicanbgaghpcaa
open Go.RowKit

def byteAt (zs : List Int) (p : Int) : Int := if 0 ≤ p ∧ p < zs.length then nth zs p.toNat else 0
theorem byteAt_in {zs : List Int} {p : Int} (h1 : 0 ≤ p) (h2 : p < zs.length) : byteAt zs p = nth zs p.toNat := if_pos ⟨h1, h2⟩
theorem byteAt_out {zs : List Int} {p : Int} (h : p < 0 ∨ zs.length ≤ p) : byteAt zs p = 0 := if_neg (by omega)
theorem wf_u8 {z : Int} (h : (Lit.int .u8 z).wf = true) : 0 ≤ z ∧ z ≤ 255 := bounds_u8 h
theorem byteAt_bd {zs : List Int} (hz : ∀ z ∈ zs, (Lit.int .u8 z).wf = true) (p : Int) : 0 ≤ byteAt zs p ∧ byteAt zs p ≤ 255 := by
  unfold byteAt
  split
  · exact range_u8 hz _
  · omega
theorem u8lim {w : World} {v : Value} {zs : List Int} (h : Rd .u8 w v zs) : zs.length ≤ 140737488351232 := by
  obtain ⟨_, _, _, h, _⟩ := h
  simpa [IntKind.bits] using h

set_option maxHeartbeats 400000 in
theorem at_any (v : Value) (zs : List Int) (i : Int) (w : World) (h : Rd .u8 w v zs) :
    Calls Try.prog 23 #[v, .int .i64 i] w fun e w' => e = .returned (.int .u8 (byteAt zs i)) ∧ w' = w := by
  have hl := u8lim h
  obtain ⟨a, cap, rfl, _, hz, hc⟩ := h
  by_cases h0 : 0 ≤ i
  · by_cases h1 : i < zs.length
    · obtain ⟨b, off, rfl, hb, hc⟩ := hc (by omega)
      have hcc := hc i.toNat (by omega)
      have HB := hid (byteAt_in h0 h1)
      clear hc hz
      go_enter Try.func23, Try.ntmps23
      go_wp2
      go_ret
      exact ⟨ret_int HB.out.symm, rfl⟩
    · have HB := hid (byteAt_out (zs := zs) (p := i) (by omega))
      clear hc hz
      go_enter Try.func23, Try.ntmps23
      go_wp2
      go_ret
      exact ⟨ret_int HB.out.symm, rfl⟩
  · have HB := hid (byteAt_out (zs := zs) (p := i) (by omega))
    clear hc hz
    go_enter Try.func23, Try.ntmps23
    go_wp2
    go_ret
    exact ⟨ret_int HB.out.symm, rfl⟩

set_option maxHeartbeats 400000 in
theorem clamp_any (n t : Int) (w : World) :
    Calls Try.prog 24 #[.int .i64 n, .int .i64 t] w fun e w' => e = .returned (.int .i64 (min (max n 0) t)) ∧ w' = w := by
  go_enter Try.func24, Try.ntmps24
  go_wp2
  all_goals (go_ret; exact ⟨ret_int (by omega), rfl⟩)

def ldTo (zs : List Int) (a : Int) : Nat → Int
  | 0 => 0
  | k + 1 => if 0 ≤ a + k ∧ a + k < zs.length then bits .or .u64 (ldTo zs a k) (IntKind.u64.wrap (IntKind.u64.wrap (nth zs (a + k).toNat) * 2 ^ (8 * k))) else ldTo zs a k

set_option maxHeartbeats 400000 in
theorem load_any (v : Value) (zs : List Int) (at_ : Int) (w : World) (h : Rd .u8 w v zs)
    (h1 : -9223372036854775808 ≤ at_) (h2 : at_ ≤ 9223372036854775807) :
    Calls Try.prog 6 #[v, .int .i64 at_] w fun e w' => e = .returned (.int .u64 (ldTo zs at_ 8)) ∧ w' = w := by
  have hl := u8lim h
  obtain ⟨a, cap, rfl, _, hz, hc⟩ := h
  clear hz
  go_enter Try.func6, Try.ntmps6
  go_wp2
  go_loop [5, 8] (fun x i => ∃ k : Nat, k ≤ 8 ∧ i = .int .i64 k ∧ x = .int .u64 (ldTo zs at_ k)) (fun _ i => 8 - (intOf i).toNat)
  case atStart => exact ⟨0, by omega, rfl, rfl⟩
  case round =>
    obtain ⟨k, hk, rfl, rfl⟩ := hrel
    by_cases hlt : k < 8
    · by_cases hin : 0 ≤ at_ + k ∧ at_ + k < zs.length
      · have HL : Hid (ldTo zs at_ (k + 1) = _) := hid (if_pos hin)
        obtain ⟨hin1, hin2⟩ := hin
        obtain ⟨b, off, rfl, hb, hc⟩ := hc (by omega)
        have hcc := hc (at_ + k).toNat (by omega)
        clear hc
        go_wp2
        go_round
        case rel => exact ⟨k + 1, by omega, by go_num, by rw [HL.out]⟩
        case measure => simp [intOf]; omega
      · have HL : Hid (ldTo zs at_ (k + 1) = _) := hid (if_neg hin)
        clear hc
        by_cases hov : at_ + k ≤ 9223372036854775807
        · by_cases h0 : 0 ≤ at_ + k
          · go_wp2
            go_round
            case rel => exact ⟨k + 1, by omega, by go_num, by rw [HL.out]⟩
            case measure => simp [intOf]; omega
          · go_wp2
            go_round
            case rel => exact ⟨k + 1, by omega, by go_num, by rw [HL.out]⟩
            case measure => simp [intOf]; omega
        · obtain ⟨q, hq, hq0⟩ : ∃ q, wrap64 (at_ + k) = q ∧ q < 0 := ⟨_, rfl, by unfold wrap64; omega⟩
          go_wp2
          go_round
          case rel => exact ⟨k + 1, by omega, by go_num, by rw [HL.out]⟩
          case measure => simp [intOf]; omega
    · go_wp2
      go_ret
      have : k = 8 := by omega
      subst this
      exact ⟨rfl, rfl⟩

def rlTo (zs : List Int) (a : Int) : Nat → Int
  | 0 => 0
  | k + 1 => IntKind.u64.wrap (IntKind.u64.wrap (rlTo zs a k * 256) + IntKind.u64.wrap (byteAt zs (a + (7 - k))))
def rl (zs : List Int) (a : Int) : Int := if a < -8 ∨ zs.length ≤ a then 0 else rlTo zs a 8

set_option maxHeartbeats 400000 in
theorem refload_any (v : Value) (zs : List Int) (at_ : Int) (w : World) (h : Rd .u8 w v zs) :
    Calls Try.prog 7 #[v, .int .i64 at_] w fun e w' => e = .returned (.int .u64 (rl zs at_)) ∧ w' = w := by
  have hl := u8lim h
  have HZ := hid h
  obtain ⟨a, cap, rfl, _, hz, hc⟩ := h
  clear hc hz
  by_cases h0 : at_ < -8
  · have HL : Hid (rl zs at_ = _) := hid (if_pos (.inl h0))
    go_enter Try.func7, Try.ntmps7
    go_wp2
    go_ret
    exact ⟨ret_int HL.out.symm, rfl⟩
  by_cases h1 : (zs.length : Int) ≤ at_
  · have HL : Hid (rl zs at_ = _) := hid (if_pos (.inr h1))
    go_enter Try.func7, Try.ntmps7
    go_wp2
    go_ret
    exact ⟨ret_int HL.out.symm, rfl⟩
  have HL : Hid (rl zs at_ = _) := hid (if_neg (by omega))
  go_enter Try.func7, Try.ntmps7
  go_wp2
  go_loop [5, 6] (fun x i => ∃ k : Nat, k ≤ 8 ∧ i = .int .i64 (7 - k) ∧ x = .int .u64 (rlTo zs at_ k)) (fun _ i => (intOf i + 1).toNat)
  case atStart => exact ⟨0, by omega, rfl, rfl⟩
  case round =>
    obtain ⟨k, hk, rfl, rfl⟩ := hrel
    by_cases hlt : k < 8
    · go_wp2_with (go_at_call 23; refine (at_any _ _ _ _ HZ.out).mono ?_; rintro e w' ⟨rfl, rfl⟩)
      go_round
      case rel => exact ⟨k + 1, by omega, by go_num, by simp [rlTo]⟩
      case measure => simp [intOf]; omega
    · go_wp2
      go_ret
      have : k = 8 := by omega
      subst this
      exact ⟨ret_int HL.out.symm, rfl⟩
end Go.Proofs.Ytoicanbgaghpcaa
