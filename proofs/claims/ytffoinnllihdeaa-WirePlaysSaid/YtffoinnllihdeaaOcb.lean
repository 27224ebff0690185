import Derived.Test.YtffoinnllihdeaaProg
import Derived.Test.YtffoinnllihdeaaGen
import Derived.Laws.CopyOwn
set_option maxRecDepth 100000
namespace Go.Proofs.Ytffoinnllihdeaa
open Go.RowKit

def byteAt (zs : List Int) (p : Int) : Int := if 0 ≤ p ∧ p < zs.length then nth zs p.toNat else 0
theorem byteAt_in {zs : List Int} {p : Int} (h1 : 0 ≤ p) (h2 : p < zs.length) : byteAt zs p = nth zs p.toNat := if_pos ⟨h1, h2⟩
theorem byteAt_out {zs : List Int} {p : Int} (h : p < 0 ∨ zs.length ≤ p) : byteAt zs p = 0 := if_neg (by omega)
theorem wf_u8 {z : Int} (h : (Lit.int .u8 z).wf = true) : 0 ≤ z ∧ z ≤ 255 := bounds_u8 h
theorem byteAt_bd {zs : List Int} (hz : ∀ z ∈ zs, (Lit.int .u8 z).wf = true) (p : Int) : 0 ≤ byteAt zs p ∧ byteAt zs p ≤ 255 := by
  unfold byteAt
  split
  · exact range_u8 hz _
  · omega
theorem u8lim {w : World} {v : Value} {zs : List Int} (h : Rd .u8 w v zs) : zs.length ≤ 140737488351232 := by
  obtain ⟨_, _, _, h, _⟩ := h
  simpa [IntKind.bits] using h

def ldTo (zs : List Int) (a : Int) : Nat → Int
  | 0 => 0
  | k + 1 => if 0 ≤ a + k ∧ a + k < zs.length then bits .or .u64 (ldTo zs a k) (IntKind.u64.wrap (IntKind.u64.wrap (nth zs (a + k).toNat) * 2 ^ (8 * k))) else ldTo zs a k

def rlTo (zs : List Int) (a : Int) : Nat → Int
  | 0 => 0
  | k + 1 => IntKind.u64.wrap (IntKind.u64.wrap (rlTo zs a k * 256) + IntKind.u64.wrap (byteAt zs (a + (7 - k))))
def rl (zs : List Int) (a : Int) : Int := if a < -8 ∨ zs.length ≤ a then 0 else rlTo zs a 8

end Go.Proofs.Ytffoinnllihdeaa

namespace Go.Proofs.Ytffoinnllihdeaa
open Go.RowKit

def rrTo (x : Int) : Nat → Int
  | 0 => x
  | k + 1 => IntKind.u64.wrap (IntKind.u64.wrap (rrTo x k * 2) + rrTo x k / 9223372036854775808)

set_option maxHeartbeats 400000 in
theorem mod_any (k : Int) (w : World) :
    Calls Try.prog 70 #[.int .i64 k, .int .i64 64] w fun e w' => e = .returned (.int .i64 (k % 64)) ∧ w' = w := by
  have hm : k.tmod 64 = if k % 64 ≠ 0 ∧ k < 0 then k % 64 - 64 else k % 64 := by
    rw [Int.tmod_eq_emod]; split <;> split <;> simp_all <;> omega
  by_cases hc : k % 64 ≠ 0 ∧ k < 0
  · rw [if_pos hc] at hm
    obtain ⟨q, hq⟩ : ∃ q, k.tmod 64 = q := ⟨_, rfl⟩
    have h1 : q < 0 := by omega
    have h2 : -64 ≤ q := by omega
    have HQ := hid (show q + 64 = k % 64 by omega)
    clear hm hc
    go_enter Try.func70, Try.ntmps70
    go_wp2
    go_ret
    exact ⟨ret_int HQ.out, rfl⟩
  · rw [if_neg hc] at hm
    obtain ⟨q, hq⟩ : ∃ q, k.tmod 64 = q := ⟨_, rfl⟩
    have h1 : 0 ≤ q := by omega
    have HQ := hid (show q = k % 64 by omega)
    clear hm hc
    go_enter Try.func70, Try.ntmps70
    go_wp2
    go_ret
    exact ⟨ret_int HQ.out, rfl⟩

set_option maxHeartbeats 400000 in
theorem refrot_any (x k : Int) (w : World) (hx : 0 ≤ x ∧ x ≤ 18446744073709551615) :
    Calls Try.prog 62 #[.int .u64 x, .int .i64 k] w fun e w' => e = .returned (.int .u64 (rrTo x (k % 64).toNat)) ∧ w' = w := by
  obtain ⟨n, hn, hn2⟩ : ∃ n : Nat, k % 64 = n ∧ n < 64 := ⟨(k % 64).toNat, by omega, by omega⟩
  have HN := hid hn
  clear hn
  have hbd : ∀ k, 0 ≤ rrTo x k ∧ rrTo x k ≤ 18446744073709551615 := by
    intro k
    cases k with
    | zero => exact hx
    | succ k => simp only [rrTo, IntKind.wrap_u64]; omega
  have HB := hid hbd
  clear hbd hx
  go_enter Try.func62, Try.ntmps62
  go_wp2
  go_loop [0, 5] (fun y i => ∃ j : Nat, j ≤ n ∧ i = .int .i64 j ∧ y = .int .u64 (rrTo x j)) (fun _ i => n - (intOf i).toNat)
  case atStart => exact ⟨0, by omega, rfl, rfl⟩
  case round =>
    obtain ⟨j, hj, rfl, rfl⟩ := hrel
    have hb1 := (HB.out j).1
    have hb2 := (HB.out j).2
    have HS := hid (show rrTo x (j + 1) = _ from rfl)
    obtain ⟨m, hm⟩ : ∃ m, k % 64 = m := ⟨_, rfl⟩
    have HM := hid (show m = n by rw [← hm]; exact HN.out)
    have hmn : (m : Int) ≤ n := by rw [HM.out]; omega
    have hmn' : (n : Int) ≤ m := by rw [HM.out]; omega
    by_cases hlt : j < n
    · go_wp2_with (go_at_call 70; refine (mod_any _ _).mono ?_; rintro e w' ⟨rfl, rfl⟩)
      go_round
      case rel => exact ⟨j + 1, by omega, by go_num, rfl⟩
      case measure => simp [intOf]; omega
    · go_wp2_with (go_at_call 70; refine (mod_any _ _).mono ?_; rintro e w' ⟨rfl, rfl⟩)
      go_ret
      obtain rfl : j = n := by omega
      exact ⟨by rw [HN.out]; simp, rfl⟩

def dif (xs ys : List Int) : Nat → Int
  | 0 => 0
  | k + 1 => bits .or .u8 (dif xs ys k) (bits .xor .u8 (nth xs k) (nth ys k))
theorem and63 (k : Int) : bits .and .u64 (IntKind.u64.wrap k) 63 = k % 64 := by
  rw [u64_and _ _ (by rw [IntKind.wrap_u64]; omega) (by rw [IntKind.wrap_u64]; omega) (by omega) (by omega), IntKind.wrap_u64]
  have h : (63 : Int).toNat = 2 ^ 6 - 1 := rfl
  rw [h, Nat.and_two_pow_sub_one_eq_mod]
  omega
def rotl (x : Int) (m : Nat) : Int := bits .or .u64 (IntKind.u64.wrap (x * 2 ^ m)) (x / 2 ^ (64 - m))
set_option maxHeartbeats 400000 in
theorem rot64_any (x k : Int) (w : World) (hx : 0 ≤ x ∧ x ≤ 18446744073709551615) :
    Calls Try.prog 81 #[.int .u64 x, .int .i64 k] w fun e w' => e = .returned (.int .u64 (rotl x (k % 64).toNat)) ∧ w' = w := by
  obtain ⟨hx1, hx2⟩ := hx
  have hb := and63 k
  obtain ⟨m, hm, hm64⟩ : ∃ m : Nat, k % 64 = m ∧ m < 64 := ⟨(k % 64).toNat, by omega, by omega⟩
  rw [hm] at hb ⊢
  clear hm
  go_enter Try.func81, Try.ntmps81
  go_wp2
  go_ret
  exact ⟨rfl, rfl⟩
set_option maxHeartbeats 400000 in
theorem orot_any (x k : Int) (w : World) (hx : 0 ≤ x ∧ x ≤ 18446744073709551615) :
    Calls Try.prog 77 #[.int .u64 x, .int .i64 k] w fun e w' => e = .returned (.int .u64 (rotl x (k % 64).toNat)) ∧ w' = w := by
  go_enter Try.func77, Try.ntmps77
  go_wp2_with (go_at_call 81; refine (rot64_any _ _ _ hx).mono ?_; rintro e w' ⟨rfl, rfl⟩)
  go_ret
  exact ⟨rfl, rfl⟩
def lowL (m : Nat) : Int := IntKind.u64.wrap (IntKind.u64.wrap (2 ^ m) - 1)
def rlow : Nat → Int
  | 0 => 0
  | k + 1 => IntKind.u64.wrap (IntKind.u64.wrap (rlow k * 2) + 1)
set_option maxHeartbeats 400000 in
theorem reflow_any (n : Int) (w : World) :
    Calls Try.prog 63 #[.int .i64 n] w fun e w' => e = .returned (.int .u64 (rlow (min (max n 0) 64).toNat)) ∧ w' = w := by
  obtain ⟨m, hm, hm64⟩ : ∃ m : Nat, min (max n 0) 64 = m ∧ m ≤ 64 := ⟨(min (max n 0) 64).toNat, by omega, by omega⟩
  have HM := hid hm
  clear hm
  go_enter Try.func63, Try.ntmps63
  go_wp2
  go_loop [3, 4] (fun y i => ∃ j : Nat, j ≤ m ∧ i = .int .i64 j ∧ y = .int .u64 (rlow j)) (fun _ i => m - (intOf i).toNat)
  case atStart => exact ⟨0, by omega, rfl, rfl⟩
  case round =>
    obtain ⟨j, hj, rfl, rfl⟩ := hrel
    by_cases hlt : j < m
    · have h1 : (j : Int) < n := by have := HM.out; omega
      go_wp2
      go_round
      case rel => exact ⟨j + 1, by omega, by go_num, rfl⟩
      case measure => simp [intOf]; omega
    · have h0 : j = m := by omega
      by_cases h1 : (j : Int) < n
      · have h2 : ¬ (j : Int) < 64 := by have := HM.out; omega
        clear h0
        go_wp2
        go_ret
        obtain rfl : j = m := by omega
        exact ⟨by rw [HM.out]; simp, rfl⟩
      · clear h0
        go_wp2
        go_ret
        obtain rfl : j = m := by omega
        exact ⟨by rw [HM.out]; simp, rfl⟩
end Go.Proofs.Ytffoinnllihdeaa

namespace Go.Proofs.Ytffoinnllihdeaa
open Go.RowKit
theorem info8 : (Try.prog.info? 5).map (fun i => (i.zero, i.size, i.bytes)) = some (some (.int .u8 0), 1, 1) := by kernel_rfl

def rsTo (x : Int) : Nat → Int
  | 0 => x
  | k + 1 => rsTo x k / 256
def rsL (x : Int) : Nat → List Int
  | 0 => []
  | k + 1 => rsL x k ++ [rsTo x k % 256]
theorem rsL_len (x : Int) : ∀ k, (rsL x k).length = k
  | 0 => rfl
  | k + 1 => by simp [rsL, rsL_len x k]

end Go.Proofs.Ytffoinnllihdeaa

namespace Go.Proofs.Ytffoinnllihdeaa
open Go.RowKit

/-! ### octet.Store -/
def stL (x : Int) : Nat → List Int
  | 0 => []
  | k + 1 => stL x k ++ [x / 2 ^ (8 * k) % 256]
theorem stL_len (x : Int) : ∀ k, (stL x k).length = k
  | 0 => rfl
  | k + 1 => by simp [stL, stL_len x k]

/-! ### octet.Xor and the reference's -/
def xorL (xs ys : List Int) : Nat → List Int
  | 0 => []
  | k + 1 => xorL xs ys k ++ [bits .xor .u8 (nth xs k) (nth ys k)]
theorem xorL_len (xs ys : List Int) : ∀ k, (xorL xs ys k).length = k
  | 0 => rfl
  | k + 1 => by simp [xorL, xorL_len xs ys k]

end Go.Proofs.Ytffoinnllihdeaa

namespace Go.Proofs.Ytffoinnllihdeaa
open Go.RowKit

/-! ### Inc -/
def incAt : List Int → Nat → List Int
  | L, 0 => L
  | L, i + 1 => if nth L i < 255 then L.set i (nth L i + 1) else incAt (L.set i 0) i
def Bs (L : List Int) : Prop := ∀ z ∈ L, 0 ≤ z ∧ z ≤ 255
theorem Bs.nth {L : List Int} (h : Bs L) (j : Nat) : 0 ≤ nth L j ∧ nth L j ≤ 255 := by
  by_cases hj : j < L.length
  · rw [nth_of hj]; exact h _ (List.getElem_mem hj)
  · simp only [Go.Proofs.Ytffoinnllihdeaa.nth, List.getD, List.getElem?_eq_none (Nat.le_of_not_lt hj)]; simp
theorem Bs.set {L : List Int} (h : Bs L) (j : Nat) {z : Int} (hz : 0 ≤ z ∧ z ≤ 255) : Bs (L.set j z) := by
  intro x hx
  rcases List.mem_or_eq_of_mem_set hx with hx | rfl
  · exact h x hx
  · exact hz
theorem bs_of {L : List Int} (h : ∀ z ∈ L, (Lit.int .u8 z).wf = true) : Bs L := fun z hz => wf_u8 (h z hz)

end Go.Proofs.Ytffoinnllihdeaa

namespace Go.Proofs.Ytffoinnllihdeaa
open Go.RowKit

/-! ### Double -/
def dbByte (x y : Int) : Int := bits .or .u8 (x * 2 % 256) (y / 128)
def dbTo (zs : List Int) : Nat → List Int
  | 0 => zs
  | k + 1 => (dbTo zs k).set k (dbByte (nth (dbTo zs k) k) (nth (dbTo zs k) (k + 1)))
def dbLast (L : List Int) : List Int := L.set 15 (nth L 15 * 2 % 256)
def dbL (zs : List Int) : List Int :=
  if zs.length = 16 then
    (if 128 ≤ nth zs 0 then (dbLast (dbTo zs 15)).set 15 (bits .xor .u8 (nth (dbLast (dbTo zs 15)) 15) 135) else dbLast (dbTo zs 15))
  else []
theorem dbByte_bd (x y : Int) : 0 ≤ dbByte x y ∧ dbByte x y ≤ 255 := wf_u8 (wf_bits _ _ _ _)
theorem dbTo_len (zs : List Int) : ∀ k, (dbTo zs k).length = zs.length
  | 0 => rfl
  | k + 1 => by simp [dbTo, dbTo_len zs k]
theorem dbTo_bs {zs : List Int} (h : Bs zs) : ∀ k, Bs (dbTo zs k)
  | 0 => h
  | k + 1 => (dbTo_bs h k).set k (dbByte_bd _ _)

def rdByte (zs : List Int) (j : Nat) : Int := if j < 15 then nth zs j % 128 * 2 + nth zs (j + 1) / 128 else nth zs j % 128 * 2
def rdTo (zs : List Int) : Nat → List Int
  | 0 => []
  | k + 1 => rdTo zs k ++ [rdByte zs k]
theorem rdTo_len (zs : List Int) : ∀ k, (rdTo zs k).length = k
  | 0 => rfl
  | k + 1 => by simp [rdTo, rdTo_len zs k]
def rdL (zs : List Int) : List Int :=
  if zs.length = 16 then (if 128 ≤ nth zs 0 then (rdTo zs 16).set 15 (bits .xor .u8 (nth (rdTo zs 16) 15) 135) else rdTo zs 16) else []

end Go.Proofs.Ytffoinnllihdeaa

namespace Go.Proofs.Ytffoinnllihdeaa
open Go.RowKit

def one16 : List Int := [0, 0, 0, 0, 0, 0, 0, 0, 0, 0, 0, 0, 0, 0, 0, 1]
theorem inc_ex : incAt [0, 255] 2 = [1, 0] := by decide +kernel
theorem dbl_ex : dbL one16 = [0, 0, 0, 0, 0, 0, 0, 0, 0, 0, 0, 0, 0, 0, 0, 2] := by decide +kernel

end Go.Proofs.Ytffoinnllihdeaa

/- The octet layer's plain mathematics: what the program computes is what the reference computes. No walk. -/
namespace Go.Proofs.Ytffoinnllihdeaa
open Go.RowKit

theorem wu64 (n : Int) : IntKind.u64.wrap n = n % 18446744073709551616 := IntKind.wrap_u64 n

/-! Load -/
def sumTo (zs : List Int) (a : Int) : Nat → Int
  | 0 => 0
  | k + 1 => sumTo zs a k + byteAt zs (a + k) * 256 ^ k
theorem pow256 (k : Nat) : (256 : Int) ^ k = 2 ^ (8 * k) := by rw [Int.pow_mul]; rfl
theorem sumTo_bd {zs : List Int} (hz : ∀ z ∈ zs, (Lit.int .u8 z).wf = true) (a : Int) : ∀ k, 0 ≤ sumTo zs a k ∧ sumTo zs a k < 256 ^ k
  | 0 => by simp [sumTo]
  | k + 1 => by
    have ih := sumTo_bd hz a k
    have hb := byteAt_bd hz (a + k)
    have hp : (0 : Int) < 256 ^ k := Int.pow_pos (by decide)
    simp only [sumTo, Int.pow_succ]
    obtain ⟨p, hp'⟩ : ∃ p : Int, 256 ^ k = p := ⟨_, rfl⟩
    rw [hp'] at ih hp ⊢
    have h1 : 0 ≤ byteAt zs (a + k) * p := Int.mul_nonneg hb.1 (by omega)
    have h2 : byteAt zs (a + k) * p ≤ 255 * p := Int.mul_le_mul_of_nonneg_right hb.2 (by omega)
    omega
theorem or_add (x b k : Nat) (hx : x < 2 ^ k) : x ||| b * 2 ^ k = x + b * 2 ^ k := by
  rw [Nat.or_comm, ← Nat.shiftLeft_eq, ← Nat.shiftLeft_add_eq_or_of_lt hx]
  omega
theorem or_u64 (x b : Int) (k : Nat) (hx : 0 ≤ x) (hx2 : x < 2 ^ k) (hb : 0 ≤ b) (hlt : x + b * 2 ^ k < 18446744073709551616) : bits .or .u64 x (b * 2 ^ k) = x + b * 2 ^ k := by
  obtain ⟨X, rfl⟩ := Int.eq_ofNat_of_zero_le hx
  obtain ⟨b', rfl⟩ := Int.eq_ofNat_of_zero_le hb
  have e : ((b' : Int) * 2 ^ k) = ((b' * 2 ^ k : Nat) : Int) := by simp
  rw [e] at hlt ⊢
  have hx3 : X < 2 ^ k := by exact_mod_cast hx2
  rw [bits_or_u64_nat _ _ (by omega) (by omega), or_add X b' k hx3]
  rfl
theorem ldTo_sum {zs : List Int} (hz : ∀ z ∈ zs, (Lit.int .u8 z).wf = true) (a : Int) : ∀ k, k ≤ 8 → ldTo zs a k = sumTo zs a k
  | 0, _ => rfl
  | k + 1, hk => by
    have ih := ldTo_sum hz a k (by omega)
    have hs := sumTo_bd hz a k
    have hs1 := sumTo_bd hz a (k + 1)
    have hb := byteAt_bd hz (a + k)
    have h8 : (256 : Int) ^ (k + 1) ≤ 18446744073709551616 := by
      have : ∀ k, k < 8 → (256 : Int) ^ (k + 1) ≤ 18446744073709551616 := by decide
      exact this k (by omega)
    simp only [ldTo, sumTo] at hs1 ⊢
    by_cases hin : 0 ≤ a + k ∧ a + k < zs.length
    · rw [if_pos hin, ih]
      have hbe : byteAt zs (a + k) = nth zs (a + k).toNat := if_pos hin
      rw [← hbe]
      rw [pow256] at hs hs1 ⊢
      have hnn : 0 ≤ byteAt zs (a + k) * 2 ^ (8 * k) := Int.mul_nonneg hb.1 (Int.le_of_lt (Int.pow_pos (by decide)))
      rw [wu64 (byteAt zs (a + k)), Int.emod_eq_of_lt hb.1 (by omega), wu64, Int.emod_eq_of_lt hnn (by omega)]
      exact or_u64 _ _ _ hs.1 hs.2 hb.1 (by omega)
    · rw [if_neg hin, ih, show byteAt zs (a + k) = 0 from if_neg hin]
      simp
theorem rl_step (x b : Int) (hx : 0 ≤ x) (hx2 : x * 256 + b < 18446744073709551616) (hb : 0 ≤ b) : IntKind.u64.wrap (IntKind.u64.wrap (x * 256) + IntKind.u64.wrap b) = x * 256 + b := by
  simp only [wu64]; omega
theorem load_math {zs : List Int} (hz : ∀ z ∈ zs, (Lit.int .u8 z).wf = true) (a : Int) : ldTo zs a 8 = rl zs a := by
  rw [ldTo_sum hz a 8 (by omega)]
  have h0 := byteAt_bd hz (a + 0); have h1 := byteAt_bd hz (a + 1); have h2 := byteAt_bd hz (a + 2); have h3 := byteAt_bd hz (a + 3)
  have h4 := byteAt_bd hz (a + 4); have h5 := byteAt_bd hz (a + 5); have h6 := byteAt_bd hz (a + 6); have h7 := byteAt_bd hz (a + 7)
  have hs : sumTo zs a 8 = byteAt zs (a + 0) + byteAt zs (a + 1) * 256 + byteAt zs (a + 2) * 65536 + byteAt zs (a + 3) * 16777216 + byteAt zs (a + 4) * 4294967296 + byteAt zs (a + 5) * 1099511627776 + byteAt zs (a + 6) * 281474976710656 + byteAt zs (a + 7) * 72057594037927936 := by
    simp [sumTo]
  rw [hs]
  unfold rl
  split
  · rename_i ho
    have e : ∀ i : Int, 0 ≤ i → i ≤ 7 → byteAt zs (a + i) = 0 := fun i hi hi7 => byteAt_out (by omega)
    simp only [e 0 (by omega) (by omega), e 1 (by omega) (by omega), e 2 (by omega) (by omega), e 3 (by omega) (by omega), e 4 (by omega) (by omega), e 5 (by omega) (by omega), e 6 (by omega) (by omega), e 7 (by omega) (by omega)]; rfl
  · have q1 : rlTo zs a 1 = byteAt zs (a + 7) := by
      have : rlTo zs a 1 = IntKind.u64.wrap (IntKind.u64.wrap ((0 : Int) * 256) + IntKind.u64.wrap (byteAt zs (a + 7))) := rfl
      rw [this, rl_step _ _ (by omega) (by omega) h7.1]; omega
    have st : ∀ (k : Nat) (i : Int), i = 7 - k → rlTo zs a (k + 1) = IntKind.u64.wrap (IntKind.u64.wrap (rlTo zs a k * 256) + IntKind.u64.wrap (byteAt zs (a + i))) := by
      rintro k i rfl; rfl
    have q2 := st 1 6 (by omega); rw [q1, rl_step _ _ (by omega) (by omega) h6.1] at q2
    have q3 := st 2 5 (by omega); rw [q2, rl_step _ _ (by omega) (by omega) h5.1] at q3
    have q4 := st 3 4 (by omega); rw [q3, rl_step _ _ (by omega) (by omega) h4.1] at q4
    have q5 := st 4 3 (by omega); rw [q4, rl_step _ _ (by omega) (by omega) h3.1] at q5
    have q6 := st 5 2 (by omega); rw [q5, rl_step _ _ (by omega) (by omega) h2.1] at q6
    have q7 := st 6 1 (by omega); rw [q6, rl_step _ _ (by omega) (by omega) h1.1] at q7
    have q8 := st 7 0 (by omega); rw [q7, rl_step _ _ (by omega) (by omega) h0.1] at q8
    rw [q8]; omega

/-! Store -/
theorem rsTo_div (x : Int) : ∀ k, rsTo x k = x / 2 ^ (8 * k)
  | 0 => by simp [rsTo]
  | k + 1 => by
    rw [rsTo, rsTo_div x k, Int.ediv_ediv_of_nonneg (Int.le_of_lt (Int.pow_pos (by decide)))]
    congr 1
    rw [show 8 * (k + 1) = 8 * k + 8 by omega, Int.pow_add]; rfl
theorem store_math (x : Int) : ∀ k, stL x k = rsL x k
  | 0 => rfl
  | k + 1 => by rw [stL, rsL, store_math x k, rsTo_div]

/-! Low -/
theorem low_math : ∀ m, m ≤ 64 → lowL m = rlow m := by
  have h : ∀ m, m < 65 → lowL m = rlow m := by decide +kernel
  exact fun m hm => h m (by omega)

/-! Rot -/
theorem rrTo_step (q t h c : Nat) (ht : t + q ≤ 9223372036854775808) (hh : h < q) (hc : c ≤ 1) :
    IntKind.u64.wrap (IntKind.u64.wrap (((c * 9223372036854775808 + t + h : Nat) : Int) * 2) + ((c * 9223372036854775808 + t + h : Nat) : Int) / 9223372036854775808) = ((t * 2 + h * 2 + c : Nat) : Int) := by
  obtain ⟨u, hu⟩ : ∃ u : Nat, u = t + h := ⟨_, rfl⟩
  have hu2 : u < 9223372036854775808 := by omega
  have e0 : c * 9223372036854775808 + t + h = c * 9223372036854775808 + u := by omega
  have hc' : c = 0 ∨ c = 1 := by omega
  rw [e0]
  have e1 : ((c * 9223372036854775808 + u : Nat) : Int) / 9223372036854775808 = (c : Int) := by omega
  have e2 : IntKind.u64.wrap (((c * 9223372036854775808 + u : Nat) : Int) * 2) = ((2 * u : Nat) : Int) := by
    rw [wu64]; rcases hc' with rfl | rfl <;> omega
  rw [e1, e2, wu64]
  rcases hc' with rfl | rfl <;> omega
/-- after m steps: the low 64-m bits lie m higher, the high m bits lie below. -/
theorem rrTo_form (X : Nat) (hX : X < 18446744073709551616) : ∀ m, m < 64 → rrTo (X : Int) m = (((X % 2 ^ (64 - m)) * 2 ^ m + X / 2 ^ (64 - m) : Nat) : Int)
  | 0, _ => by simp [rrTo]; omega
  | m + 1, hm => by
    have ih := rrTo_form X hX m (by omega)
    rw [rrTo, ih]
    obtain ⟨p, hp⟩ : ∃ p, 2 ^ (64 - (m + 1)) = p := ⟨_, rfl⟩
    obtain ⟨q, hq⟩ : ∃ q, 2 ^ m = q := ⟨_, rfl⟩
    have hp2 : 2 ^ (64 - m) = 2 * p := by rw [← hp, show 64 - m = (64 - (m + 1)) + 1 by omega, Nat.pow_succ, Nat.mul_comm]
    have hpq : p * q = 9223372036854775808 := by
      rw [← hp, ← hq, ← Nat.pow_add, show 64 - (m + 1) + m = 63 by omega]
    have hp0 : 0 < p := by rw [← hp]; exact Nat.two_pow_pos _
    have hq0 : 0 < q := by rw [← hq]; exact Nat.two_pow_pos _
    have hX2 : X < 2 * p * q * 1 * 1 := by rw [Nat.mul_one, Nat.mul_one, Nat.mul_assoc, hpq]; omega
    rw [Nat.pow_succ, hp, hp2, hq]
    have hH : X / (2 * p) < q := by
      rw [Nat.div_lt_iff_lt_mul (by omega)]
      calc X < 2 * p * q * 1 * 1 := hX2
        _ = q * (2 * p) := by rw [Nat.mul_one, Nat.mul_one, Nat.mul_comm]
    have hc : X / p % 2 ≤ 1 := by omega
    have e1 : X / p = 2 * (X / (2 * p)) + X / p % 2 := by
      have : X / (2 * p) = X / p / 2 := by rw [Nat.mul_comm, Nat.div_div_eq_div_mul]
      omega
    have e2 : X % (2 * p) = (X / p % 2) * p + X % p := by
      have h1 := Nat.div_add_mod X (2 * p)
      have h2 := Nat.div_add_mod X p
      have h3 : p * (X / p) = 2 * p * (X / (2 * p)) + (X / p % 2) * p := by
        conv => lhs; rw [e1]
        rw [Nat.mul_add]
        congr 1
        · rw [Nat.mul_comm 2 p, Nat.mul_assoc]
        · rw [Nat.mul_comm]
      omega
    have hL : X % p < p := Nat.mod_lt _ hp0
    have e3 : (X % (2 * p)) * q = (X / p % 2) * 9223372036854775808 + X % p * q := by
      rw [e2, Nat.add_mul, Nat.mul_assoc, hpq]
    have hLt : X % p * q + q ≤ 9223372036854775808 := by
      rw [← hpq, ← Nat.succ_mul]
      exact Nat.mul_le_mul_right _ hL
    rw [e3]
    have := rrTo_step q (X % p * q) (X / (2 * p)) (X / p % 2) hLt hH hc
    rw [this]
    have e4 : X % p * (q * 2) = X % p * q * 2 := by rw [Nat.mul_assoc]
    rw [e4]
    congr 1
    omega
theorem rot_math (x : Int) (hx : 0 ≤ x ∧ x ≤ 18446744073709551615) (m : Nat) (hm : m < 64) : rotl x m = rrTo x m := by
  obtain ⟨X, rfl⟩ := Int.eq_ofNat_of_zero_le hx.1
  have hX : X < 18446744073709551616 := by omega
  show rotl (X : Int) m = rrTo (X : Int) m
  rw [rrTo_form X hX m hm]
  unfold rotl
  have d : ((X : Int) / 2 ^ (64 - m)) = ((X / 2 ^ (64 - m) : Nat) : Int) := by simp
  have hsplit : 2 ^ (64 - m) * 2 ^ m = 18446744073709551616 := by rw [← Nat.pow_add, show 64 - m + m = 64 by omega]
  have hA : X * 2 ^ m % 18446744073709551616 = X % 2 ^ (64 - m) * 2 ^ m := by
    rw [← hsplit, Nat.mul_mod_mul_right]
  have e : IntKind.u64.wrap ((X : Int) * 2 ^ m) = ((X % 2 ^ (64 - m) * 2 ^ m : Nat) : Int) := by
    rw [wu64, ← hA]; simp
  have hB : X / 2 ^ (64 - m) < 2 ^ m := by
    rw [Nat.div_lt_iff_lt_mul (Nat.two_pow_pos _), Nat.mul_comm, hsplit]; exact hX
  have hM : X % 2 ^ (64 - m) * 2 ^ m < 18446744073709551616 := by rw [← hA]; exact Nat.mod_lt _ (by decide)
  rw [e, d, bits_or_u64_nat _ _ hM (by have := Nat.div_le_self X (2 ^ (64 - m)); omega), Nat.or_comm, or_add _ _ _ hB, Nat.add_comm]

/-! Same -/
theorem xor_eq_zero (a b : Nat) : a ^^^ b = 0 ↔ a = b := by
  constructor
  · intro h
    have : a ^^^ b ^^^ b = b := by rw [h]; simp
    rwa [Nat.xor_assoc, Nat.xor_self, Nat.xor_zero] at this
  · rintro rfl; simp
theorem or_zero {a b : Int} (ha : 0 ≤ a ∧ a ≤ 255) (hb : 0 ≤ b ∧ b ≤ 255) : bits .or .u8 a b = 0 ↔ a = 0 ∧ b = 0 := by
  rw [u8_or _ _ ha.1 (by omega) hb.1 (by omega)]
  have : ((a.toNat ||| b.toNat : Nat) : Int) = 0 ↔ a.toNat ||| b.toNat = 0 := by omega
  rw [this, Nat.or_eq_zero_iff]
  omega
theorem xor_zero {a b : Int} (ha : 0 ≤ a ∧ a ≤ 255) (hb : 0 ≤ b ∧ b ≤ 255) : bits .xor .u8 a b = 0 ↔ a = b := by
  rw [u8_xor _ _ ha.1 (by omega) hb.1 (by omega)]
  have : ((a.toNat ^^^ b.toNat : Nat) : Int) = 0 ↔ a.toNat ^^^ b.toNat = 0 := by omega
  rw [this, xor_eq_zero]
  omega
theorem dif_bd (xs ys : List Int) : ∀ k, 0 ≤ dif xs ys k ∧ dif xs ys k ≤ 255
  | 0 => by simp [dif]
  | k + 1 => wf_u8 (wf_bits _ _ _ _)
theorem dif_zero {xs ys : List Int} (hx : Bs xs) (hy : Bs ys) : ∀ k, dif xs ys k = 0 ↔ ∀ j, j < k → nth xs j = nth ys j
  | 0 => by simp [dif]
  | k + 1 => by
    rw [dif, or_zero (dif_bd xs ys k) (wf_u8 (wf_bits _ _ _ _)), dif_zero hx hy k, xor_zero (hx.nth k) (hy.nth k)]
    constructor
    · rintro ⟨h1, h2⟩ j hj
      by_cases e : j = k
      · subst e; exact h2
      · exact h1 j (by omega)
    · intro h; exact ⟨fun j hj => h j (by omega), h k (by omega)⟩
theorem ext_nth {xs ys : List Int} (hl : xs.length = ys.length) (h : ∀ j, j < xs.length → nth xs j = nth ys j) : xs = ys := by
  apply List.ext_getElem hl
  intro i h1 h2
  have := h i h1
  rwa [nth_of h1, nth_of h2] at this
theorem same_math {xs ys : List Int} (hx : Bs xs) (hy : Bs ys) : (decide (xs.length = ys.length) && (dif xs ys xs.length == 0)) = decide (xs = ys) := by
  rw [Bool.eq_iff_iff]
  simp only [Bool.and_eq_true, decide_eq_true_eq, beq_iff_eq, dif_zero hx hy]
  constructor
  · rintro ⟨h1, h2⟩; exact ext_nth h1 h2
  · rintro rfl; exact ⟨rfl, fun _ _ => rfl⟩
end Go.Proofs.Ytffoinnllihdeaa

/- The octet layer's plain mathematics, more: doubling. No walk. -/
namespace Go.Proofs.Ytffoinnllihdeaa
open Go.RowKit

theorem nth_set (L : List Int) (i j : Nat) (z : Int) (hi : i < L.length) : nth (L.set i z) j = if j = i then z else nth L j := by
  unfold nth
  rw [List.getD_eq_getElem?_getD, List.getElem?_set, List.getD_eq_getElem?_getD]
  by_cases h : i = j
  · subst h; simp [hi]
  · have : ¬ j = i := fun e => h e.symm
    simp [h, this]
theorem nth_append (L : List Int) (z : Int) (j : Nat) : nth (L ++ [z]) j = if j = L.length then z else nth L j := by
  unfold nth
  simp only [List.getD_eq_getElem?_getD]
  by_cases h : j < L.length
  · have : ¬ j = L.length := by omega
    rw [List.getElem?_append_left h]; simp [this]
  · by_cases e : j = L.length
    · subst e; simp
    · rw [List.getElem?_append_right (by omega), List.getElem?_eq_none (by simp; omega), List.getElem?_eq_none (by omega)]
      simp [e]
theorem dbByte_math {x y : Int} (hy : 0 ≤ y ∧ y ≤ 255) : dbByte x y = x % 128 * 2 + y / 128 := by
  unfold dbByte
  rw [u8_or _ _ (by omega) (by omega) (by omega) (by omega)]
  have e1 : (x * 2 % 256).toNat = (x % 128).toNat * 2 ^ 1 := by omega
  rw [e1, Nat.or_comm, or_add _ _ _ (by omega)]
  omega
theorem dbTo_nth {zs : List Int} (h16 : zs.length = 16) : ∀ k, k ≤ 15 → ∀ j, nth (dbTo zs k) j = if j < k then dbByte (nth zs j) (nth zs (j + 1)) else nth zs j
  | 0, _, j => by simp [dbTo]
  | k + 1, hk, j => by
    have hlen := dbTo_len zs k
    rw [dbTo, nth_set _ _ _ _ (by omega), dbTo_nth h16 k (by omega), dbTo_nth h16 k (by omega), dbTo_nth h16 k (by omega)]
    by_cases e : j = k
    · subst e; simp [show ¬ j + 1 < j by omega]
    · have : j < k + 1 ↔ j < k := by omega
      simp [e, this]
theorem rdTo_nth (zs : List Int) : ∀ k j, j < k → nth (rdTo zs k) j = rdByte zs j
  | 0, j, h => by omega
  | k + 1, j, h => by
    rw [rdTo, nth_append, rdTo_len]
    by_cases e : j = k
    · simp [e]
    · rw [if_neg e, rdTo_nth zs k j (by omega)]
theorem dbLast_math {zs : List Int} (h16 : zs.length = 16) (hz : Bs zs) : dbLast (dbTo zs 15) = rdTo zs 16 := by
  have hl : (dbTo zs 15).length = 16 := by rw [dbTo_len]; exact h16
  apply ext_nth
  · rw [dbLast, List.length_set, hl, rdTo_len]
  · intro j hj
    rw [dbLast, List.length_set, hl] at hj
    rw [dbLast, nth_set _ _ _ _ (by omega), dbTo_nth h16 15 (by omega), dbTo_nth h16 15 (by omega), rdTo_nth zs 16 j hj]
    have h1 := hz.nth j
    have h2 := hz.nth (j + 1)
    have h3 := hz.nth 15
    unfold rdByte
    by_cases e : j = 15
    · subst e; simp; omega
    · have : j < 15 := by omega
      simp only [e, this, if_true, if_false]
      exact dbByte_math h2
theorem double_math {zs : List Int} (hz : Bs zs) : dbL zs = rdL zs := by
  unfold dbL rdL
  by_cases h16 : zs.length = 16
  · rw [if_pos h16, if_pos h16, dbLast_math h16 hz]
  · rw [if_neg h16, if_neg h16]
theorem rdByte_bd {zs : List Int} (hz : Bs zs) (j : Nat) : 0 ≤ rdByte zs j ∧ rdByte zs j ≤ 255 := by
  have h1 := hz.nth j
  have h2 := hz.nth (j + 1)
  unfold rdByte; split <;> omega
theorem rdTo_bs {zs : List Int} (hz : Bs zs) : ∀ k, Bs (rdTo zs k)
  | 0 => by intro z h; simp [rdTo] at h
  | k + 1 => by
    intro z h
    simp only [rdTo, List.mem_append, List.mem_singleton] at h
    rcases h with h | rfl
    · exact rdTo_bs hz k z h
    · exact rdByte_bd hz k
theorem rdL_bs {zs : List Int} (hz : Bs zs) : Bs (rdL zs) := by
  unfold rdL
  split
  · split
    · exact (rdTo_bs hz 16).set 15 (wf_u8 (wf_bits _ _ _ _))
    · exact rdTo_bs hz 16
  · intro z h; simp at h
theorem wf_of_bs {zs : List Int} (h : Bs zs) : ∀ z ∈ zs, (Lit.int .u8 z).wf = true := by
  intro z hz
  have := h z hz
  have h1 : IntKind.u8.min = 0 := rfl
  have h2 : IntKind.u8.max = 255 := rfl
  simp only [Lit.wf, Bool.and_eq_true, decide_eq_true_eq]
  omega
theorem incAt_bs : ∀ (k : Nat) {L : List Int}, Bs L → Bs (incAt L k)
  | 0, _, h => h
  | k + 1, L, h => by
    have := h.nth k
    unfold incAt
    split
    · exact h.set k (by omega)
    · exact incAt_bs k (h.set k (by omega))
theorem incAt_len : ∀ (k : Nat) (L : List Int), (incAt L k).length = L.length
  | 0, _ => rfl
  | k + 1, L => by
    unfold incAt
    split
    · simp
    · rw [incAt_len k]; simp
theorem xorL_bs (xs ys : List Int) : ∀ k, Bs (xorL xs ys k)
  | 0 => by intro z h; simp [xorL] at h
  | k + 1 => by
    intro z h
    simp only [xorL, List.mem_append, List.mem_singleton] at h
    rcases h with h | rfl
    · exact xorL_bs xs ys k z h
    · exact wf_u8 (wf_bits _ _ _ _)
theorem rdL_len (zs : List Int) : (rdL zs).length ≤ 16 := by
  unfold rdL
  split
  · split <;> simp [rdTo_len]
  · simp
end Go.Proofs.Ytffoinnllihdeaa

/- Arrays of numbers that come in by value; more plain mathematics of the octet layer. -/
namespace Go.Proofs.Ytffoinnllihdeaa
open Go.ChangeShapes Go.WideShapes Go.ChangeAt Go.RowKit

theorem oarr_open {H : Type} {enc : TypeId × Value → H} {P : Program} {W : World} {sp : Nat → Bool} {held : Bool} {k : IntKind} {n : Nat} {t e : TypeId} {base : Nat} {v : Value} {d : DataW H} {p : List MemPlace} {b0 : Nat}
    (ht : P.underlying t = some (.array n e)) (he : P.underlying e = some (.int k)) (hc : P.cellsOf e = 1) (hct : P.cellsOf t = n)
    (hv : Value.okWide P W .any b0 t v) (h : DataW.Trod enc P W base sp held t v d p) :
    ∃ zs : List Int, v = .agg (zs.map (Value.int k)).toArray ∧ zs.length = n ∧ ∀ z ∈ zs, (Lit.int k z).wf = true := by
  have hv' : ∃ cs, v = .agg cs ∧ cs.size = P.cellsOf t := by
    unfold Value.okWide at hv
    rw [ht] at hv
    obtain ⟨cs, h1, h2, _⟩ := hv
    exact ⟨cs, h1, h2⟩
  obtain ⟨cs, rfl, hcs⟩ := hv'
  obtain ⟨fuel, hf⟩ := h
  obtain ⟨xs, m, rfl, _, hl, hxl, hel⟩ := DataW.trod_array ht hf
  simp only [Value.cells, hc, Nat.mul_one, hct] at hl hel
  have each : ∀ i (h : i < cs.toList.length), ∃ z, cs.toList[i] = .int k z ∧ (Lit.int k z).wf = true := by
    intro i hi
    have h1 := hel i (by omega)
    rw [List.drop_eq_getElem_cons hi, List.take_succ_cons, List.take_zero, List.getElem?_eq_getElem (by omega)] at h1
    obtain ⟨z, hz, _, hw⟩ := DataW.trod_int he h1
    simp only [List.cons.injEq, and_true] at hz
    exact ⟨z, hz, hw⟩
  have lst : ∀ l : List Value, (∀ i (h : i < l.length), ∃ z, l[i] = .int k z ∧ (Lit.int k z).wf = true) → ∃ zs : List Int, l = zs.map (Value.int k) ∧ ∀ z ∈ zs, (Lit.int k z).wf = true := by
    intro l
    induction l with
    | nil => intro _; exact ⟨[], rfl, by simp⟩
    | cons a r ih =>
      intro h
      obtain ⟨z, hz, hw⟩ := h 0 (by simp)
      obtain ⟨zs, hr, hws⟩ := ih (fun i hi => h (i + 1) (by simp; omega))
      simp only [List.getElem_cons_zero] at hz
      exact ⟨z :: zs, by rw [hz, hr]; rfl, by intro y hy; rcases List.mem_cons.1 hy with rfl | hy; exact hw; exact hws y hy⟩
  obtain ⟨zs, hz, hws⟩ := lst _ each
  refine ⟨zs, by rw [← hz], ?_, hws⟩
  have := congrArg List.length hz
  simp at this hl; omega

/-! what is stored is loaded -/
theorem stored_loaded (x : Int) (hx : 0 ≤ x ∧ x ≤ 18446744073709551615) : rl (rsL x 8) 0 = x := by
  have hwf : ∀ z ∈ rsL x 8, (Lit.int .u8 z).wf = true := by
    have : ∀ k, ∀ z ∈ rsL x k, (Lit.int .u8 z).wf = true := by
      intro k
      induction k with
      | zero => intro z h; simp [rsL] at h
      | succ k ih =>
        intro z h
        simp only [rsL, List.mem_append, List.mem_singleton] at h
        rcases h with h | rfl
        · exact ih z h
        · have : (Lit.int .u8 (IntKind.u8.wrap (rsTo x k))).wf = true := wf_wrap _ _
          rwa [IntKind.wrap_u8'] at this
    exact this 8
  rw [← load_math hwf, ldTo_sum hwf 0 8 (by omega)]
  have e : ∀ i : Nat, i < 8 → byteAt (rsL x 8) (0 + i) = x / 2 ^ (8 * i) % 256 := by
    intro i hi
    have h8 : (rsL x 8).length = 8 := rsL_len x 8
    have hn : ∀ k j, j < k → nth (rsL x k) j = rsTo x j % 256 := by
      intro k
      induction k with
      | zero => intro j h; omega
      | succ k ih =>
        intro j h
        rw [rsL, nth_append, rsL_len]
        by_cases e : j = k
        · simp [e]
        · rw [if_neg e, ih j (by omega)]
    rw [byteAt_in (by omega) (by rw [h8]; omega), show (0 + (i : Int)).toNat = i by omega, hn 8 i hi, rsTo_div]
  have key : ∀ k, k ≤ 8 → sumTo (rsL x 8) 0 k = x % 256 ^ k := by
    intro k
    induction k with
    | zero => intro _; simp [sumTo]
    | succ k ih =>
      intro hk
      rw [sumTo, ih (by omega), e k (by omega), ← pow256, Int.pow_succ]
      have hP : (0 : Int) ≤ 256 ^ k := Int.le_of_lt (Int.pow_pos (by decide))
      generalize (256 : Int) ^ k = P at hP ⊢
      have d : x / (P * 256) = x / P / 256 := (Int.ediv_ediv_of_nonneg hP).symm
      rw [Int.emod_def x (P * 256), Int.emod_def x P, Int.emod_def (x / P) 256, d, Int.sub_mul, Int.mul_comm (x / P) P]
      have : 256 * (x / P / 256) * P = P * 256 * (x / P / 256) := by rw [Int.mul_comm _ P, ← Int.mul_assoc]
      omega
  rw [key 8 (by omega)]
  have : (256 : Int) ^ 8 = 18446744073709551616 := rfl
  rw [this]; omega

/-! what is rotated comes back -/
theorem rrTo_add (x : Int) (a : Nat) : ∀ b, rrTo (rrTo x a) b = rrTo x (a + b)
  | 0 => rfl
  | b + 1 => by rw [rrTo, rrTo_add x a b]; rfl
theorem rrTo_64 (x : Int) (hx : 0 ≤ x ∧ x ≤ 18446744073709551615) : rrTo x 64 = x := by
  obtain ⟨X, rfl⟩ := Int.eq_ofNat_of_zero_le hx.1
  have h := rrTo_form X (by omega) 63 (by omega)
  show IntKind.u64.wrap (IntKind.u64.wrap (rrTo (X : Int) 63 * 2) + rrTo (X : Int) 63 / 9223372036854775808) = _
  have h' : rrTo (X : Int) 63 = ((X % 2 * 9223372036854775808 + 0 + X / 2 : Nat) : Int) := by
    simp only [Nat.reduceSub, Nat.reducePow] at h; rw [h, Nat.add_zero]
  rw [h', rrTo_step 9223372036854775808 0 (X / 2) (X % 2) (by omega) (by omega) (by omega)]
  have : 0 * 2 + X / 2 * 2 + X % 2 = X := by omega
  rw [this]
theorem rrTo_bd (x : Int) (hx : 0 ≤ x ∧ x ≤ 18446744073709551615) (k : Nat) : 0 ≤ rrTo x k ∧ rrTo x k ≤ 18446744073709551615 := by
  cases k with
  | zero => exact hx
  | succ k => simp only [rrTo, wu64]; omega
theorem rot_back (x k : Int) (hx : 0 ≤ x ∧ x ≤ 18446744073709551615) : rotl (rotl x (k % 64).toNat) (-(k.tmod 64) % 64).toNat = x := by
  rw [rot_math x hx _ (by omega), rot_math _ (rrTo_bd x hx _) _ (by omega), rrTo_add]
  have hm : k.tmod 64 = if k % 64 ≠ 0 ∧ k < 0 then k % 64 - 64 else k % 64 := by
    rw [Int.tmod_eq_emod]; split <;> split <;> simp_all <;> omega
  have : (k % 64).toNat + (-(k.tmod 64) % 64).toNat = 0 ∨ (k % 64).toNat + (-(k.tmod 64) % 64).toNat = 64 := by
    rw [hm]; split <;> omega
  rcases this with h | h <;> rw [h]
  · rfl
  · exact rrTo_64 x hx
theorem rot_zero (x : Int) (hx : 0 ≤ x ∧ x ≤ 18446744073709551615) : rotl x 0 = x := rot_math x hx 0 (by omega)

/-! doubling is linear -/
theorem b8_xor {a b : Int} (ha : 0 ≤ a ∧ a ≤ 255) (hb : 0 ≤ b ∧ b ≤ 255) : bits .xor .u8 a b = ((a.toNat ^^^ b.toNat : Nat) : Int) := u8_xor _ _ ha.1 (by omega) hb.1 (by omega)
theorem rdb_lin (a b c d : Nat) (hb : b < 256) (hd : d < 256) :
    (a ^^^ c) % 128 * 2 + (b ^^^ d) / 128 = (a % 128 * 2 + b / 128) ^^^ (c % 128 * 2 + d / 128) := by
  have hb1 : b / 128 < 2 ^ 1 := by omega
  have hd1 : d / 128 < 2 ^ 1 := by omega
  have hx : (b ^^^ d) / 128 = b / 128 ^^^ d / 128 := by
    have := @Nat.shiftRight_xor_distrib 7 b d
    simpa [Nat.shiftRight_eq_div_pow] using this
  have hx1 : (b ^^^ d) / 128 < 2 ^ 1 := by rw [hx]; exact Nat.xor_lt_two_pow hb1 hd1
  have hm : (a ^^^ c) % 128 = a % 128 ^^^ c % 128 := by
    have := @Nat.xor_mod_two_pow a c 7
    simpa using this
  have e : ∀ m n : Nat, n < 2 ^ 1 → m * 2 + n = m * 2 ^ 1 ^^^ n := by
    intro m n hn
    have h1 : n ||| m * 2 ^ 1 = n + m * 2 ^ 1 := or_add n m 1 hn
    have h2 : (m * 2 ^ 1 ^^^ n) = (n ||| m * 2 ^ 1) := by
      apply Nat.eq_of_testBit_eq
      intro i
      rw [Nat.testBit_xor, Nat.testBit_or, ← Nat.shiftLeft_eq, Nat.testBit_shiftLeft]
      by_cases hi : 1 ≤ i
      · have : n.testBit i = false := Nat.testBit_lt_two_pow (Nat.lt_of_lt_of_le hn (Nat.pow_le_pow_right (by decide) hi))
        simp [this]
      · simp [hi]
    rw [h2, h1]; omega
  rw [e _ _ hx1, e _ _ hb1, e _ _ hd1, hx, hm]
  have hs : (a % 128 ^^^ c % 128) * 2 ^ 1 = (a % 128) * 2 ^ 1 ^^^ (c % 128) * 2 ^ 1 := by
    have := @Nat.shiftLeft_xor_distrib 1 (a % 128) (c % 128)
    simpa only [Nat.shiftLeft_eq] using this
  rw [hs]
  ac_rfl

theorem xorL_nth (xs ys : List Int) : ∀ k j, j < k → nth (xorL xs ys k) j = bits .xor .u8 (nth xs j) (nth ys j)
  | 0, j, h => by omega
  | k + 1, j, h => by
    rw [xorL, nth_append, xorL_len]
    by_cases e : j = k
    · simp [e]
    · rw [if_neg e, xorL_nth xs ys k j (by omega)]
def carry (zs : List Int) (j : Nat) : Int := if j = 15 then nth zs 0 / 128 * 135 else 0
theorem carry_bd {zs : List Int} (hz : Bs zs) (j : Nat) : 0 ≤ carry zs j ∧ carry zs j ≤ 255 := by
  have := hz.nth 0
  unfold carry; split <;> omega
theorem xor_id {a : Int} (ha : 0 ≤ a ∧ a ≤ 255) : bits .xor .u8 a 0 = a := by
  rw [b8_xor ha (by omega)]
  have : a.toNat ^^^ (0 : Int).toNat = a.toNat := by simp
  rw [this]; omega
theorem rdL_nth {zs : List Int} (h16 : zs.length = 16) (hz : Bs zs) (j : Nat) (hj : j < 16) : nth (rdL zs) j = bits .xor .u8 (rdByte zs j) (carry zs j) := by
  have h0 := hz.nth 0
  have hb := rdByte_bd hz j
  have h15 : nth (rdTo zs 16) 15 = rdByte zs 15 := rdTo_nth zs 16 15 (by omega)
  unfold rdL carry
  rw [if_pos h16]
  by_cases ht : 128 ≤ nth zs 0
  · have e : nth zs 0 / 128 * 135 = 135 := by omega
    rw [if_pos ht, nth_set _ _ _ _ (by rw [rdTo_len]; omega), h15, e, rdTo_nth zs 16 j hj]
    by_cases e15 : j = 15
    · subst e15; simp
    · rw [if_neg e15, if_neg e15, xor_id hb]
  · have e : nth zs 0 / 128 * 135 = 0 := by omega
    rw [if_neg ht, rdTo_nth zs 16 j hj, e]
    split <;> rw [xor_id hb]
theorem rdL_len16 {zs : List Int} (h16 : zs.length = 16) : (rdL zs).length = 16 := by
  unfold rdL
  rw [if_pos h16]
  split <;> simp [rdTo_len]
theorem carry_lin (a c : Nat) (ha : a < 256) (hc : c < 256) : (a ^^^ c) / 128 * 135 = (a / 128 * 135) ^^^ (c / 128 * 135) := by
  have hx : (a ^^^ c) / 128 = a / 128 ^^^ c / 128 := by
    have := @Nat.shiftRight_xor_distrib 7 a c
    simpa [Nat.shiftRight_eq_div_pow] using this
  have h1 : a / 128 = 0 ∨ a / 128 = 1 := by omega
  have h2 : c / 128 = 0 ∨ c / 128 = 1 := by omega
  rw [hx]
  rcases h1 with h1 | h1 <;> rcases h2 with h2 | h2 <;> rw [h1, h2] <;> decide
theorem double_lin {xs ys : List Int} (hx16 : xs.length = 16) (hy16 : ys.length = 16) (hx : Bs xs) (hy : Bs ys) :
    rdL (xorL xs ys 16) = xorL (rdL xs) (rdL ys) 16 := by
  have hc16 : (xorL xs ys 16).length = 16 := xorL_len _ _ _
  have hc := xorL_bs xs ys 16
  apply ext_nth
  · rw [rdL_len16 hc16, xorL_len]
  · intro j hj
    rw [rdL_len16 hc16] at hj
    rw [rdL_nth hc16 hc j hj, xorL_nth _ _ 16 j hj, rdL_nth hx16 hx j hj, rdL_nth hy16 hy j hj]
    have hX := rdByte_bd hx j; have hY := rdByte_bd hy j; have cX := carry_bd hx j; have cY := carry_bd hy j
    have hC := rdByte_bd hc j; have cC := carry_bd hc j
    rw [b8_xor hX cX, b8_xor hY cY, b8_xor hC cC, b8_xor (by have := Nat.xor_lt_two_pow (n := 8) (x := (rdByte xs j).toNat) (y := (carry xs j).toNat) (by omega) (by omega); omega) (by have := Nat.xor_lt_two_pow (n := 8) (x := (rdByte ys j).toNat) (y := (carry ys j).toNat) (by omega) (by omega); omega)]
    simp only [Int.toNat_natCast]
    have nx : ∀ i, i < 16 → nth (xorL xs ys 16) i = (((nth xs i).toNat ^^^ (nth ys i).toNat : Nat) : Int) := fun i hi => by
      rw [xorL_nth _ _ 16 i hi, b8_xor (hx.nth i) (hy.nth i)]
    have k1 : (rdByte (xorL xs ys 16) j).toNat = (rdByte xs j).toNat ^^^ (rdByte ys j).toNat := by
      have a1 := hx.nth j; have a2 := hy.nth j; have a3 := hx.nth (j + 1); have a4 := hy.nth (j + 1)
      unfold rdByte
      by_cases h15 : j < 15
      · rw [if_pos h15, if_pos h15, if_pos h15, nx j hj, nx (j + 1) (by omega)]
        have := rdb_lin (nth xs j).toNat (nth xs (j + 1)).toNat (nth ys j).toNat (nth ys (j + 1)).toNat (by omega) (by omega)
        have e1 : (nth xs j % 128 * 2 + nth xs (j + 1) / 128).toNat = (nth xs j).toNat % 128 * 2 + (nth xs (j + 1)).toNat / 128 := by omega
        have e2 : (nth ys j % 128 * 2 + nth ys (j + 1) / 128).toNat = (nth ys j).toNat % 128 * 2 + (nth ys (j + 1)).toNat / 128 := by omega
        rw [e1, e2, ← this]; omega
      · rw [if_neg h15, if_neg h15, if_neg h15, nx j hj]
        have := rdb_lin (nth xs j).toNat 0 (nth ys j).toNat 0 (by omega) (by omega)
        simp only [Nat.zero_div, Nat.add_zero, Nat.xor_self] at this
        have e1 : (nth xs j % 128 * 2).toNat = (nth xs j).toNat % 128 * 2 := by omega
        have e2 : (nth ys j % 128 * 2).toNat = (nth ys j).toNat % 128 * 2 := by omega
        rw [e1, e2, ← this]; omega
    have k2 : (carry (xorL xs ys 16) j).toNat = (carry xs j).toNat ^^^ (carry ys j).toNat := by
      have a1 := hx.nth 0; have a2 := hy.nth 0
      unfold carry
      by_cases h15 : j = 15
      · rw [if_pos h15, if_pos h15, if_pos h15, nx 0 (by omega)]
        have := carry_lin (nth xs 0).toNat (nth ys 0).toNat (by omega) (by omega)
        have e1 : (nth xs 0 / 128 * 135).toNat = (nth xs 0).toNat / 128 * 135 := by omega
        have e2 : (nth ys 0 / 128 * 135).toNat = (nth ys 0).toNat / 128 * 135 := by omega
        rw [e1, e2, ← this]; omega
      · rw [if_neg h15, if_neg h15, if_neg h15]; rfl
    rw [k1, k2]
    congr 1
    ac_rfl
theorem xorL_back {xs ys : List Int} (hx16 : xs.length = 16) (hx : Bs xs) (hy : Bs ys) : xorL (xorL xs ys 16) ys 16 = xs := by
  apply ext_nth
  · rw [xorL_len, hx16]
  · intro j hj
    rw [xorL_len] at hj
    have a1 := hx.nth j; have a2 := hy.nth j
    rw [xorL_nth _ _ 16 j hj, xorL_nth _ _ 16 j hj, b8_xor a1 a2]
    have hl := Nat.xor_lt_two_pow (n := 8) (x := (nth xs j).toNat) (y := (nth ys j).toNat) (by omega) (by omega)
    rw [b8_xor (by omega) a2, Int.toNat_natCast, Nat.xor_assoc, Nat.xor_self, Nat.xor_zero]
    omega
end Go.Proofs.Ytffoinnllihdeaa

/- octet's rows put together, and held against others, as rows of numbers. -/
namespace Go.Proofs.Ytffoinnllihdeaa
open Go.RowKit
set_option maxRecDepth 100000
/-! ### Data and a stream -/
def xorF (f g : Nat → Nat) : Nat → Nat := fun j => f j ^^^ g j
theorem xorF_b {f g : Nat → Nat} {j : Nat} (hf : f j < 256) (hg : g j < 256) : xorF f g j < 256 := Nat.xor_lt_two_pow (n := 8) hf hg
theorem xorL_ns {n m : Nat} (f g : Nat → Nat) (hf : ∀ j, j < n → f j < 256) (hg : ∀ j, j < m → g j < 256) : ∀ k, k ≤ n → k ≤ m → xorL (ns n f) (ns m g) k = ns k (xorF f g)
  | 0, _, _ => rfl
  | k + 1, hn, hm => by
    unfold xorL
    rw [xorL_ns f g hf hg k (by omega) (by omega), ns_nth f (show k < n by omega), ns_nth g (show k < m by omega), ← ns_snoc]
    have h1 := hf k (by omega)
    have h2 := hg k (by omega)
    rw [b8_xor (by omega) (by omega)]
    simp [xorF]
theorem xorF_back {M : Nat} (x y : Nat → Nat) : ns M (xorF (xorF x y) y) = ns M x := ns_ext fun _ _ => by simp [xorF, Nat.xor_assoc]
theorem xor_comm_ns {M : Nat} (x y : Nat → Nat) : ns M (xorF x y) = ns M (xorF y x) := ns_ext fun _ _ => Nat.xor_comm _ _
end Go.Proofs.Ytffoinnllihdeaa
