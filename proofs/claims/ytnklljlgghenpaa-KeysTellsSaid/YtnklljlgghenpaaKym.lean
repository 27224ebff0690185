/- The words of a key, as the document tells them. -/
import Derived.Test.YtnklljlgghenpaaSbn
import Derived.Test.YtnklljlgghenpaaSlb
namespace Go.Proofs.Ytnklljlgghenpaa
open Go.RowKit

/-- A round's mark. -/
def mkb (i : Nat) : Nat := if i < 1 then 0 else pw 2 (i - 1)
theorem mkb_lt (i : Nat) : mkb i < 256 := by
  unfold mkb
  split
  · decide
  · exact pw_lt (by decide) _
/-- What is made of the word ahead. -/
def mkw (K i : Nat) (a : Nat → Nat) (j : Nat) : Nat :=
  if i % K = 0 then sb (a ((j + 1) % 4)) ^^^ (if j = 0 then mkb (i / K) else 0) else if K = 8 ∧ i % 8 = 4 then sb (a j) else a j
theorem mkw_lt {K i : Nat} {a : Nat → Nat} (ha : ∀ j, j < 4 → a j < 256) : ∀ j, j < 4 → mkw K i a j < 256 := fun j hj => by
  unfold mkw
  split
  · refine xor_lt (sb_lt _) ?_
    split
    · exact mkb_lt _
    · decide
  · split
    · exact sb_lt _
    · exact ha j hj
theorem mkw_ext {K i : Nat} {a b : Nat → Nat} (h : ∀ j, j < 4 → a j = b j) : ∀ j, j < 4 → mkw K i a j = mkw K i b j := fun j hj => by
  unfold mkw
  rw [h _ (Nat.mod_lt _ (by decide)), h j hj]
/-- The key's words and n more. -/
def exps (K : Nat) (k : Nat → Nat) : Nat → Nat → Nat → Nat
  | 0 => fun i j => k (4 * i + j)
  | n + 1 => updR (exps K k n) (K + n) fun j => exps K k n n j ^^^ mkw K (K + n) (exps K k n (K + n - 1)) j
theorem exps_new (K : Nat) (k : Nat → Nat) (n : Nat) : exps K k (n + 1) = updR (exps K k n) (K + n) fun j => exps K k n n j ^^^ mkw K (K + n) (exps K k n (K + n - 1)) j := rfl
theorem exps_stay (K : Nat) (k : Nat → Nat) {n i : Nat} (h : i < K + n) : ∀ d, exps K k (n + d) i = exps K k n i
  | 0 => rfl
  | d + 1 => by
    show exps K k (n + d + 1) i = _
    rw [exps_new]
    unfold updR
    rw [if_neg (by omega)]
    exact exps_stay K k h d
theorem exps_at (K : Nat) (k : Nat → Nat) {N i : Nat} (hK : 0 < K) (h : K ≤ i) (hN : i < K + N) (j : Nat) : exps K k N i j = exps K k N (i - K) j ^^^ mkw K i (exps K k N (i - 1)) j := by
  obtain ⟨n, rfl⟩ : ∃ n, i = K + n := ⟨i - K, by omega⟩
  obtain ⟨d, rfl⟩ : ∃ d, N = n + 1 + d := ⟨N - n - 1, by omega⟩
  rw [exps_stay K k (n := n + 1) (by omega) d, exps_new]
  simp only [updR, if_pos]
  rw [show n + 1 + d = n + (1 + d) by omega, exps_stay K k (n := n) (by omega) (1 + d), exps_stay K k (n := n) (by omega) (1 + d), show K + n - K = n by omega]
theorem exps_key (K : Nat) (k : Nat → Nat) {N i : Nat} (h : i < K) (j : Nat) : exps K k N i j = k (4 * i + j) := by
  have := exps_stay K k (n := 0) (i := i) (by omega) N
  rw [Nat.zero_add] at this
  rw [this]; rfl
theorem exps_lt {K : Nat} {k : Nat → Nat} (hk : ∀ x, k x < 256) : ∀ n i j, j < 4 → exps K k n i j < 256
  | 0, _, _, _ => hk _
  | n + 1, i, j, hj => by
    rw [exps_new]
    unfold updR
    split
    · exact xor_lt (exps_lt hk n _ j hj) (mkw_lt (exps_lt hk n _) j hj)
    · exact exps_lt hk n i j hj
/-- Round key r. -/
def rkey (K : Nat) (k : Nat → Nat) (N r m : Nat) : Nat := exps K k N (4 * r + m / 4) (m % 4)

/-- How many rounds. -/
def rnd (n : Int) : Nat := if n = 16 then 10 else if n = 24 then 12 else if n = 32 then 14 else 0

theorem rounds_any (n : Int) (w : World) : Calls Try.prog 5 #[.int .i64 n] w fun e w' => e = .returned (.int .i64 (rnd n : Nat)) ∧ w' = w := by
  unfold rnd
  by_cases h1 : n = 16
  · subst h1; go_enter Try.func5, Try.ntmps5; go_wp2; go_ret; exact ⟨rfl, rfl⟩
  by_cases h2 : n = 24
  · subst h2; go_enter Try.func5, Try.ntmps5; go_wp2; go_ret; exact ⟨rfl, rfl⟩
  by_cases h3 : n = 32
  · subst h3; go_enter Try.func5, Try.ntmps5; go_wp2; go_ret; exact ⟨rfl, rfl⟩
  rw [if_neg h1, if_neg h2, if_neg h3]
  have e1 : (n == 16) = false := by rw [beq_eq_false_iff_ne]; exact h1
  have e2 : (n == 24) = false := by rw [beq_eq_false_iff_ne]; exact h2
  have e3 : (n == 32) = false := by rw [beq_eq_false_iff_ne]; exact h3
  clear h1 h2 h3
  go_enter Try.func5, Try.ntmps5
  go_wp2
  go_ret
  exact ⟨rfl, rfl⟩
theorem refrounds_any (n : Int) (w : World) : Calls Try.prog 6 #[.int .i64 n] w fun e w' => e = .returned (.int .i64 (rnd n : Nat)) ∧ w' = w := by
  unfold rnd
  by_cases h1 : n = 16
  · subst h1; go_enter Try.func6, Try.ntmps6; go_wp2; go_ret; exact ⟨rfl, rfl⟩
  by_cases h2 : n = 24
  · subst h2; go_enter Try.func6, Try.ntmps6; go_wp2; go_ret; exact ⟨rfl, rfl⟩
  by_cases h3 : n = 32
  · subst h3; go_enter Try.func6, Try.ntmps6; go_wp2; go_ret; exact ⟨rfl, rfl⟩
  rw [if_neg h1, if_neg h2, if_neg h3]
  have e1 : (n == 16) = false := by rw [beq_eq_false_iff_ne]; exact h1
  have e2 : (n == 24) = false := by rw [beq_eq_false_iff_ne]; exact h2
  have e3 : (n == 32) = false := by rw [beq_eq_false_iff_ne]; exact h3
  clear h1 h2 h3
  go_enter Try.func6, Try.ntmps6
  go_wp2
  go_ret
  exact ⟨rfl, rfl⟩

/-- The mark of any number. -/
def mki (n : Int) : Nat := if n < 1 then 0 else pwi 2 (n - 1)
theorem mki_nat (n : Nat) : mki (n : Int) = mkb n := by
  unfold mki mkb
  by_cases h : n < 1
  · rw [if_pos (by omega), if_pos h]
  · rw [if_neg (by omega), if_neg h, show ((n : Int) - 1) = ((n - 1 : Nat) : Int) by omega, pwi_nat]
theorem mark_any (n : Int) (w : World) (h : n ≤ 9223372036854775807) : Calls Try.prog 7 #[.int .i64 n] w fun e w' => e = .returned (.int .u8 (mki n : Nat)) ∧ w' = w := by
  unfold mki
  by_cases h1 : n < 1
  · rw [if_pos h1]
    go_enter Try.func7, Try.ntmps7
    go_wp2
    go_ret
    exact ⟨rfl, rfl⟩
  · rw [if_neg h1]
    have HP : Hid (∀ w, Calls Try.prog 13 #[.int .u8 2, .int .i64 (n - 1)] w fun e w' => e = .returned (.int .u8 (pwi 2 (n - 1) : Nat)) ∧ w' = w) := hid (fun w => pow_any 2 (n - 1) w (by decide) (by omega))
    generalize pwi 2 (n - 1) = p at HP ⊢
    go_enter Try.func7, Try.ntmps7
    go_wp2_with (first | (go_at_call 13; (with_reducible refine (HP.out _).mono ?_); rintro e w1 ⟨rfl, rfl⟩))
    go_ret
    exact ⟨rfl, rfl⟩
theorem refmark_any (n : Int) (w : World) (h : n ≤ 9223372036854775807) : Calls Try.prog 8 #[.int .i64 n] w fun e w' => e = .returned (.int .u8 (mki n : Nat)) ∧ w' = w := by
  unfold mki
  by_cases h1 : n < 1
  · rw [if_pos h1]
    go_enter Try.func8, Try.ntmps8
    go_wp2
    go_ret
    exact ⟨rfl, rfl⟩
  · rw [if_neg h1]
    have HP : Hid (∀ w, Calls Try.prog 14 #[.int .u8 2, .int .i64 (n - 1)] w fun e w' => e = .returned (.int .u8 (pwi 2 (n - 1) : Nat)) ∧ w' = w) := hid (fun w => refpow_any 2 (n - 1) w (by decide) (by omega))
    generalize pwi 2 (n - 1) = p at HP ⊢
    go_enter Try.func8, Try.ntmps8
    go_wp2_with (first | (go_at_call 14; (with_reducible refine (HP.out _).mono ?_); rintro e w1 ⟨rfl, rfl⟩))
    go_ret
    exact ⟨rfl, rfl⟩
theorem marks_nat (n : Nat) (w : World) (h : n ≤ 9223372036854775807) : Calls Try.prog 7 #[.int .i64 (n : Int)] w fun e w' => e = .returned (.int .u8 (mkb n : Nat)) ∧ w' = w := by
  have := mark_any n w (by omega)
  rwa [mki_nat] at this
theorem refmarks_nat (n : Nat) (w : World) (h : n ≤ 9223372036854775807) : Calls Try.prog 8 #[.int .i64 (n : Int)] w fun e w' => e = .returned (.int .u8 (mkb n : Nat)) ∧ w' = w := by
  have := refmark_any n w (by omega)
  rwa [mki_nat] at this

/-! ### a box, asked or not -/
def Box (w : World) (b : Nat) : Prop := ∃ s p, BAt w b 0 0 s zt zt p ∨ BAt w b 1 0 s sb bk p
theorem Box.lt {w : World} {b : Nat} (h : Box w b) : b < w.heap.size := by
  obtain ⟨s, p, h | h⟩ := h <;> exact h.lt
theorem Box.self {w w' : World} {b : Nat} (h : Box w b) (hb : Below w.heap.size w w') : Box w' b := by
  obtain ⟨s, p, h | h⟩ := h
  · exact ⟨s, p, .inl (h.self hb)⟩
  · exact ⟨s, p, .inr (h.self hb)⟩
theorem Box.only {w w' : World} {b c : Nat} (h : Box w b) (o : Only c w w') (hc : b ≠ c) : Box w' b := by
  obtain ⟨s, p, h | h⟩ := h
  · exact ⟨s, p, .inl (h.only o hc)⟩
  · exact ⟨s, p, .inr (h.only o hc)⟩
theorem Box.drew {w : World} {b : Nat} (h : Box w b) : Box w.drew b := h
theorem Box.set {w : World} {b : Nat} (h : Box w b) {a : Addr} (ha : b ≠ a.block) (v : Value) : Box (w.setCell a v) b := by
  obtain ⟨s, p, h | h⟩ := h
  · exact ⟨s, p, .inl ((heap_setCell_other w a b v ha).trans h)⟩
  · exact ⟨s, p, .inr ((heap_setCell_other w a b v ha).trans h)⟩
theorem sub_box (b x : Nat) (w : World) (hx : x < 256) (h : Box w b) :
    Calls Try.prog 30 #[.pointer (some ⟨b, 0, none⟩), .int .u8 (x : Int)] w fun e w' => e = .returned (.int .u8 (sb x : Nat)) ∧ Box w' b ∧ Only b w w' := by
  obtain ⟨s, p, h | h⟩ := h
  · exact (sub_first b x s p w hx h).mono fun e w' ⟨h1, h2, h3⟩ => ⟨h1, ⟨s, p, .inr h2⟩, h3⟩
  · exact (sub_done b x s p w hx h).mono fun e w' ⟨h1, h2⟩ => ⟨h1, by rw [h2]; exact ⟨s, p, .inr h⟩, by rw [h2]; exact Only.refl b w⟩
end Go.Proofs.Ytnklljlgghenpaa
