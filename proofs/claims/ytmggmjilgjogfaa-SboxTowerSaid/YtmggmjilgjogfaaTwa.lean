import Derived.Test.YtmggmjilgjogfaaProg
import Derived.Test.YtmggmjilgjogfaaNbe
import Derived.Test.YtmggmjilgjogfaaTwm
namespace Go.Proofs.Ytmggmjilgjogfaa
open Go.RowKit

theorem and15_all : ∀ a : Nat, a < 256 → bits .and .u8 (a : Int) 15 = ((a % 16 : Nat) : Int) := by decide +kernel
theorem or16_all : ∀ x : Nat, x < 16 → ∀ y : Nat, y < 16 → bits .or .u8 ((x * 16 : Nat) : Int) (y : Int) = ((jn x y : Nat) : Int) := by decide +kernel

theorem split_any (a : Nat) (w : World) (ha : a < 256) :
    Calls Try.prog 62 #[.int .u8 (a : Int)] w fun e w' => e = .returned (.tuple #[.int .u8 ((a / 16 : Nat) : Int), .int .u8 ((a % 16 : Nat) : Int)]) ∧ w' = w := by
  have H := hid (and15_all a ha)
  go_enter Try.func62, Try.ntmps62
  go_wp2
  go_ret2
  refine ⟨?_, rfl⟩
  simp

theorem join_any (x y : Nat) (w : World) (hx : x < 16) (hy : y < 16) :
    Calls Try.prog 64 #[.int .u8 (x : Int), .int .u8 (y : Int)] w fun e w' => e = .returned (.int .u8 (jn x y : Nat)) ∧ w' = w := by
  have H := hid (or16_all x hx y hy)
  go_enter Try.func64, Try.ntmps64
  go_wp2
  go_ret
  refine ⟨ret_int ?_, rfl⟩
  rw [← H.out]
  congr 1

theorem tmul_any (a b : Nat) (w : World) (ha : a < 256) (hb : b < 256) :
    Calls Try.prog 51 #[.int .u8 (a : Int), .int .u8 (b : Int)] w fun e w' => e = .returned (.int .u8 (tm a b : Nat)) ∧ w' = w := by
  have HT : Hid (tm a b = jn ((nm (a / 16) (b / 16) ^^^ nm (a / 16) (b % 16)) ^^^ nm (a % 16) (b / 16)) (nm (nm (a / 16) (b / 16)) 8 ^^^ nm (a % 16) (b % 16))) := hid rfl
  have SA := hid (fun w => split_any a w ha)
  have SB := hid (fun w => split_any b w hb)
  obtain ⟨a1, h1⟩ : ∃ x, a / 16 = x := ⟨_, rfl⟩
  obtain ⟨a0, h2⟩ : ∃ x, a % 16 = x := ⟨_, rfl⟩
  obtain ⟨b1, h3⟩ : ∃ x, b / 16 = x := ⟨_, rfl⟩
  obtain ⟨b0, h4⟩ : ∃ x, b % 16 = x := ⟨_, rfl⟩
  have k1 : a1 < 16 := by omega
  have k2 : a0 < 16 := by omega
  have k3 : b1 < 16 := by omega
  have k4 : b0 < 16 := by omega
  rw [h1, h2, h3, h4] at HT
  rw [h1, h2] at SA
  rw [h3, h4] at SB
  clear h1 h2 h3 h4
  obtain ⟨s, hs⟩ : ∃ x, nm a1 b1 = x := ⟨_, rfl⟩
  obtain ⟨p, hp⟩ : ∃ x, nm a1 b0 = x := ⟨_, rfl⟩
  obtain ⟨q, hq⟩ : ∃ x, nm a0 b1 = x := ⟨_, rfl⟩
  obtain ⟨r, hr⟩ : ∃ x, nm a0 b0 = x := ⟨_, rfl⟩
  obtain ⟨t, ht⟩ : ∃ x, nm s 8 = x := ⟨_, rfl⟩
  have js : s < 16 := hs ▸ nm_lt _ _
  have jp : p < 16 := hp ▸ nm_lt _ _
  have jq : q < 16 := hq ▸ nm_lt _ _
  have jr : r < 16 := hr ▸ nm_lt _ _
  have jt : t < 16 := ht ▸ nm_lt _ _
  rw [hs, hp, hq, hr, ht] at HT
  have N1 := hid (fun w => nmul_to (a := a1) (b := b1) (by omega) (by omega) hs w)
  have N2 := hid (fun w => nmul_to (a := a1) (b := b0) (by omega) (by omega) hp w)
  have N3 := hid (fun w => nmul_to (a := a0) (b := b1) (by omega) (by omega) hq w)
  have N4 := hid (fun w => nmul_to (a := a0) (b := b0) (by omega) (by omega) hr w)
  have N5 : Hid (∀ w, Calls Try.prog 63 #[.int .u8 (s : Int), .int .u8 8] w fun e w' => e = .returned (.int .u8 (t : Nat)) ∧ w' = w) := hid (fun w => nmul_to (a := s) (b := 8) (by omega) (by omega) ht w)
  clear hs hp hq hr ht
  have X1 := hid (xor8 (a := s ^^^ p) (b := q) (xor_lt (by omega) (by omega)) (by omega))
  have X0 := hid (xor8 (a := s) (b := p) (by omega) (by omega))
  have X2 := hid (xor8 (a := t) (b := r) (by omega) (by omega))
  have JJ := hid (fun w => join_any ((s ^^^ p) ^^^ q) (t ^^^ r) w (nxor_lt (nxor_lt js jp) jq) (nxor_lt jt jr))
  rw [← X1.out, ← X0.out, ← X2.out] at JJ
  go_enter Try.func51, Try.ntmps51
  go_wp2_with (first
    | (go_at_call 62; (with_reducible refine (SA.out _).mono ?_); rintro e w1 ⟨rfl, rfl⟩)
    | (go_at_call 62; (with_reducible refine (SB.out _).mono ?_); rintro e w1 ⟨rfl, rfl⟩)
    | (go_at_call 63; (with_reducible refine (N1.out _).mono ?_); rintro e w1 ⟨rfl, rfl⟩)
    | (go_at_call 63; (with_reducible refine (N2.out _).mono ?_); rintro e w1 ⟨rfl, rfl⟩)
    | (go_at_call 63; (with_reducible refine (N3.out _).mono ?_); rintro e w1 ⟨rfl, rfl⟩)
    | (go_at_call 63; (with_reducible refine (N4.out _).mono ?_); rintro e w1 ⟨rfl, rfl⟩)
    | (go_at_call 63; (with_reducible refine (N5.out _).mono ?_); rintro e w1 ⟨rfl, rfl⟩)
    | (go_at_call 64; (with_reducible refine (JJ.out _).mono ?_); rintro e w1 ⟨rfl, rfl⟩))
  go_ret
  exact ⟨ret_int (by rw [HT.out]), rfl⟩

theorem nrefmul_to {a b c : Nat} (ha : a < 256) (hb : b < 256) (h : nm a b = c) (w : World) :
    Calls Try.prog 26 #[.int .u8 (a : Int), .int .u8 (b : Int)] w fun e w' => e = .returned (.int .u8 (c : Nat)) ∧ w' = w := by
  have := nrefmul_any a b w ha hb
  rw [h] at this
  exact this

theorem trefmul_any (a b : Nat) (w : World) (ha : a < 256) (hb : b < 256) :
    Calls Try.prog 18 #[.int .u8 (a : Int), .int .u8 (b : Int)] w fun e w' => e = .returned (.int .u8 (tm a b : Nat)) ∧ w' = w := by
  have HT : Hid (tm a b = jn ((nm (a / 16) (b / 16) ^^^ nm (a / 16) (b % 16)) ^^^ nm (a % 16) (b / 16)) (nm (nm (a / 16) (b / 16)) 8 ^^^ nm (a % 16) (b % 16))) := hid rfl
  obtain ⟨a1, h1⟩ : ∃ x, a / 16 = x := ⟨_, rfl⟩
  obtain ⟨a0, h2⟩ : ∃ x, a % 16 = x := ⟨_, rfl⟩
  obtain ⟨b1, h3⟩ : ∃ x, b / 16 = x := ⟨_, rfl⟩
  obtain ⟨b0, h4⟩ : ∃ x, b % 16 = x := ⟨_, rfl⟩
  have k1 : a1 < 16 := by omega
  have k2 : a0 < 16 := by omega
  have k3 : b1 < 16 := by omega
  have k4 : b0 < 16 := by omega
  rw [h1, h2, h3, h4] at HT
  have e1 : Hid ((a : Int) / 16 = (a1 : Int)) := hid (by omega)
  have e2 : Hid ((a : Int) % 16 = (a0 : Int)) := hid (by omega)
  have e3 : Hid ((b : Int) / 16 = (b1 : Int)) := hid (by omega)
  have e4 : Hid ((b : Int) % 16 = (b0 : Int)) := hid (by omega)
  clear h1 h2 h3 h4
  obtain ⟨s, hs⟩ : ∃ x, nm a1 b1 = x := ⟨_, rfl⟩
  obtain ⟨p, hp⟩ : ∃ x, nm a1 b0 = x := ⟨_, rfl⟩
  obtain ⟨q, hq⟩ : ∃ x, nm a0 b1 = x := ⟨_, rfl⟩
  obtain ⟨r, hr⟩ : ∃ x, nm a0 b0 = x := ⟨_, rfl⟩
  obtain ⟨t, ht⟩ : ∃ x, nm s 8 = x := ⟨_, rfl⟩
  have js : s < 16 := hs ▸ nm_lt _ _
  have jp : p < 16 := hp ▸ nm_lt _ _
  have jq : q < 16 := hq ▸ nm_lt _ _
  have jr : r < 16 := hr ▸ nm_lt _ _
  have jt : t < 16 := ht ▸ nm_lt _ _
  rw [hs, hp, hq, hr, ht] at HT
  have N1 := hid (fun w => nrefmul_to (a := a1) (b := b1) (by omega) (by omega) hs w)
  have N2 := hid (fun w => nrefmul_to (a := a1) (b := b0) (by omega) (by omega) hp w)
  have N3 := hid (fun w => nrefmul_to (a := a0) (b := b1) (by omega) (by omega) hq w)
  have N4 := hid (fun w => nrefmul_to (a := a0) (b := b0) (by omega) (by omega) hr w)
  have N5 : Hid (∀ w, Calls Try.prog 26 #[.int .u8 (s : Int), .int .u8 8] w fun e w' => e = .returned (.int .u8 (t : Nat)) ∧ w' = w) := hid (fun w => nrefmul_to (a := s) (b := 8) (by omega) (by omega) ht w)
  rw [← e1.out, ← e3.out] at N1
  rw [← e1.out, ← e4.out] at N2
  rw [← e2.out, ← e3.out] at N3
  rw [← e2.out, ← e4.out] at N4
  clear hs hp hq hr ht
  have HX : Hid (bits .xor .u8 (bits .xor .u8 (p : Int) (q : Int)) (s : Int) = (((s ^^^ p) ^^^ q : Nat) : Int)) := hid (by
    rw [xor8 (by omega) (by omega), xor8 (xor_lt (by omega) (by omega)) (by omega), Nat.xor_comm, ← Nat.xor_assoc])
  have HY : Hid (bits .xor .u8 (r : Int) (t : Int) = ((t ^^^ r : Nat) : Int)) := hid (by rw [xor8 (by omega) (by omega), Nat.xor_comm])
  have j1 : (s ^^^ p) ^^^ q < 16 := nxor_lt (nxor_lt js jp) jq
  have j2 : t ^^^ r < 16 := nxor_lt jt jr
  go_enter Try.func18, Try.ntmps18
  go_wp2_with (first
    | (go_at_call 26; (with_reducible refine (N1.out _).mono ?_); rintro e w1 ⟨rfl, rfl⟩)
    | (go_at_call 26; (with_reducible refine (N2.out _).mono ?_); rintro e w1 ⟨rfl, rfl⟩)
    | (go_at_call 26; (with_reducible refine (N3.out _).mono ?_); rintro e w1 ⟨rfl, rfl⟩)
    | (go_at_call 26; (with_reducible refine (N4.out _).mono ?_); rintro e w1 ⟨rfl, rfl⟩)
    | (go_at_call 26; (with_reducible refine (N5.out _).mono ?_); rintro e w1 ⟨rfl, rfl⟩))
  go_ret
  refine ⟨ret_int ?_, rfl⟩
  rw [HT.out, HX.out, HY.out]
  unfold jn
  omega
end Go.Proofs.Ytmggmjilgjogfaa
