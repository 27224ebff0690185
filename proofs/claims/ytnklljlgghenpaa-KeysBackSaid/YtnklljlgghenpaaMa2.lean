import Derived.Test.YtnklljlgghenpaaMa1
namespace Go.Proofs.Ytnklljlgghenpaa
open Go.RowKit

/-- How many of the first n bits are 1. -/
def popTo (x : Nat) : Nat → Nat
  | 0 => 0
  | k + 1 => popTo x k + (if x.testBit k then 1 else 0)
def pop (x : Nat) : Nat := popTo x 8
theorem popTo_le (x : Nat) : ∀ n, popTo x n ≤ n
  | 0 => Nat.le_refl _
  | n + 1 => by have := popTo_le x n; rw [popTo]; split <;> omega
theorem pop_le (x : Nat) : pop x ≤ 8 := popTo_le x 8
theorem popTo_odd (a x : Nat) : ∀ n, bsum (fun k => a.testBit k && x.testBit k) n = decide (popTo (a &&& x) n % 2 = 1)
  | 0 => by simp [bsum, popTo]
  | n + 1 => by
    rw [bsum, popTo_odd a x n, popTo, Nat.testBit_and]
    cases h : (a.testBit n && x.testBit n)
    · simp
    · simp only [if_true]
      by_cases e : popTo (a &&& x) n % 2 = 1
      · simp [e]; omega
      · simp [e]; omega
theorem dot_pop (a x : Nat) : dot a x = decide (pop (a &&& x) % 2 = 1) := popTo_odd a x 8
theorem tab (s : ByteArray) (hs : ∀ x < 256, (s.data[x]?.map (·.toNat)) = some (pop x)) (x : Nat) (hx : x < 256) (h : x < s.size) : wrap64 ((s[x]'h).toNat : Int) = (pop x : Int) := by
  have h1 := hs x hx
  have h2 : s.data[x]? = some (s[x]'h) := by
    rw [Array.getElem?_eq_getElem (show x < s.data.size from h)]; rfl
  rw [h2] at h1
  simp only [Option.map_some, Option.some.injEq] at h1
  have := pop_le x
  rw [h1]; unfold wrap64; omega

set_option maxRecDepth 100000 in
set_option maxHeartbeats 400000 in
theorem ones_any (x : Nat) (w : World) (hx : x < 256) :
    Calls Try.prog 39 #[.int .u8 (x : Int)] w fun e w' => e = .returned (.int .i64 (pop x : Int)) ∧ w' = w := by
  go_enter Try.func39, Try.ntmps39
  go_wp2
  go_ret
  refine ⟨ret_int (tab _ ?_ x hx _), rfl⟩
  decide +kernel

theorem bit_dec (b j : Nat) : b.testBit j = decide (b / 2 ^ j % 2 = 1) := Nat.testBit_eq_decide_div_mod_eq
theorem bitB (b j : Nat) : (((b : Int) / 2 ^ j).tmod 2 == 1) = b.testBit j := by
  rw [bit_dec]
  by_cases h : b / 2 ^ j % 2 = 1
  · rw [bitT h]; simp [h]
  · rw [bitF h]; simp [h]

end Go.Proofs.Ytnklljlgghenpaa
