import Derived.Test.YtnklljlgghenpaaMa2
namespace Go.Proofs.Ytnklljlgghenpaa
open Go.RowKit

theorem and8 {a b : Nat} (ha : a < 256) (hb : b < 256) : bits .and .u8 (a : Int) (b : Int) = ((a &&& b : Nat) : Int) := u8_and_nat a b ha hb
theorem and_lt {a b : Nat} (ha : a < 256) : a &&& b < 256 := Nat.lt_of_le_of_lt Nat.and_le_left ha
theorem or8_two {T j q : Nat} (hT : T < 2 ^ j) (hj : j < 8) (hq : q < 2) : bits .or .u8 (T : Int) ((q : Int) * 2 ^ j % 256) = ((T + (if q = 1 then 2 ^ j else 0) : Nat) : Int) := by
  have hp := pow_le_128 hj
  have hq2 : q = 0 ∨ q = 1 := by omega
  rcases hq2 with rfl | rfl
  · have := u8_or_nat T 0 (by omega) (by decide)
    simpa using this
  · have h1 := u8_or_nat T (2 ^ j) (by omega) (by omega)
    have h2 : T ||| 2 ^ j = T + 2 ^ j := by
      have := Nat.two_pow_add_eq_or_of_lt hT 1
      rw [Nat.mul_one] at this
      rw [Nat.or_comm, ← this, Nat.add_comm]
    have h3 : (((1 : Nat) : Int) * 2 ^ j % 256) = ((2 ^ j : Nat) : Int) := by
      rw [Int.natCast_one, Int.one_mul]; exact sh8 hj
    rw [h3, h1, h2]; simp
theorem apply_step {T j P : Nat} (hT : T < 2 ^ j) (hj : j < 8) (hP : P ≤ 8) : bits .or .u8 (T : Int) (bits .and .i64 (P : Int) 1 % 256 * 2 ^ j % 256) = ((T + (if P % 2 = 1 then 2 ^ j else 0) : Nat) : Int) := by
  rw [and64_one (by omega), show ((P % 2 : Nat) : Int) % 256 = ((P % 2 : Nat) : Int) by omega]
  exact or8_two hT hj (by omega)

set_option maxHeartbeats 400000 in
theorem apply_any (f : Nat → Nat) (x : Nat) (w : World) (hf : By f) (hx : x < 256) :
    Calls Try.prog 34 #[.agg (ba 8 f), .int .u8 (x : Int)] w fun e w' => e = .returned (.int .u8 (ap f x : Nat)) ∧ Below w.heap.size w w' := by
  have HL := hid ((Below.refl w.heap.size w).alloc (Nat.le_refl _) (.cells (ba 8 f) 68))
  have HA := hid (At.new w 8 68 f)
  go_enter Try.func34, Try.ntmps34
  go_wp2_with (refine step_load_ba rfl 68 _ rfl w.heap.size 8 68 5 f rfl HA.out Try.underlying68 info23 ?_)
  go_loop [5, 9] (fun t i => ∃ j : Nat, j ≤ 8 ∧ i = .int .i64 j ∧ t = .int .u8 (pk (fun i => dot (f i) x) j : Nat)) (fun _ i => 8 - (intOf i).toNat)
  case atStart => exact ⟨0, by omega, rfl, rfl⟩
  case round =>
    obtain ⟨j, hj, rfl, rfl⟩ := hrel
    by_cases hlt : j < 8
    · have hi := idx f hlt
      have hb := hf j hlt
      have hand := and8 hb hx
      have hl := and_lt (b := x) hb
      have HP := hid (show pk (fun i => dot (f i) x) (j + 1) = pk (fun i => dot (f i) x) j + (if dot (f j) x then 2 ^ j else 0) from rfl)
      have HD := hid (dot_pop (f j) x)
      have HS := hid (apply_step (pk_lt (fun i => dot (f i) x) j) hlt (pop_le (f j &&& x)))
      generalize f j = a at *
      generalize pk (fun i => dot (f i) x) j = T at *
      go_wp2_with (first
          | (go_at_call 39; (with_reducible refine (ones_any (a &&& x) _ hl).mono ?_); rintro e w1 ⟨rfl, rfl⟩))
      go_round
      case rel => exact ⟨j + 1, by omega, by go_num, by rw [HS.out, HP.out, HD.out]; simp⟩
      case measure => simp [intOf]; omega
    · go_wp2
      go_ret
      have : j = 8 := by omega
      subst this
      exact ⟨rfl, HL.out⟩

end Go.Proofs.Ytnklljlgghenpaa
