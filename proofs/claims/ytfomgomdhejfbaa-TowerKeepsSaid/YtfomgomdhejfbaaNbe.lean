import Derived.Test.YtfomgomdhejfbaaProg
import Derived.Test.YtfomgomdhejfbaaNbd
namespace Go.Proofs.Ytfomgomdhejfbaa
open Go.RowKit

theorem nmul_to {a b c : Nat} (ha : a < 256) (hb : b < 256) (h : nm a b = c) (w : World) :
    Calls Try.prog 29 #[.int .u8 (a : Int), .int .u8 (b : Int)] w fun e w' => e = .returned (.int .u8 (c : Nat)) ∧ w' = w := by
  have := nmul_any a b w ha hb
  rw [h] at this
  exact this
theorem ninv_to {a c : Nat} (ha : a < 256) (h : npw a 14 = c) (w : World) :
    Calls Try.prog 23 #[.int .u8 (a : Int)] w fun e w' => e = .returned (.int .u8 (c : Nat)) ∧ w' = w := by
  have := ninv_any a w ha
  rw [h] at this
  exact this
theorem npow_to {a c n : Nat} (ha : a < 256) (hn : n < 9223372036854775808) (h : npw a n = c) (w : World) :
    Calls Try.prog 37 #[.int .u8 (a : Int), .int .i64 (n : Int)] w fun e w' => e = .returned (.int .u8 (c : Nat)) ∧ w' = w := by
  have := npow_any a n w ha (by omega)
  rw [npwi_nat, h] at this
  exact this
theorem low_int {a : Nat} : ∃ A : Nat, A < 16 ∧ (a : Int) % 16 = (A : Int) := ⟨a % 16, lt16 a, by omega⟩

end Go.Proofs.Ytfomgomdhejfbaa
