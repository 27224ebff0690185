import Derived.Test.YtkeojphhgebhdaaProg
import Derived.Test.YtkeojphhgebhdaaCda
import Derived.Test.YtkeojphhgebhdaaCdm
/- Code: a number's bytes, by the program. -/
namespace Go.Proofs.Ytkeojphhgebhdaa
open Go.RowKit

/-- A number without its last k bytes; its last k bytes. -/
def dn (n : Nat) : Nat → Nat
  | 0 => n
  | k + 1 => dn n k / 256
def lowb (n : Nat) : Nat → List Int
  | 0 => []
  | k + 1 => ((dn n k % 256 : Nat) : Int) :: lowb n k
theorem dn_up (n : Nat) : ∀ k, dn n (k + 1) = dn (n / 256) k
  | 0 => rfl
  | k + 1 => by show dn n (k + 1) / 256 = dn (n / 256) k / 256; rw [dn_up n k]
theorem lowb_up (n : Nat) : ∀ k, lowb n (k + 1) = lowb (n / 256) k ++ [((n % 256 : Nat) : Int)]
  | 0 => rfl
  | k + 1 => by
    show ((dn n (k + 1) % 256 : Nat) : Int) :: lowb n (k + 1) = (((dn (n / 256) k % 256 : Nat) : Int) :: lowb (n / 256) k) ++ _
    rw [lowb_up n k, dn_up]
    rfl
theorem lowb_len (n : Nat) : ∀ k, (lowb n k).length = k
  | 0 => rfl
  | k + 1 => by simp [lowb, lowb_len n k]
theorem lowb_dg : ∀ n : Nat, lowb n (dg n).length = dg n := dg_ind
  (fun n h => by rw [dg_one h]; show [((n % 256 : Nat) : Int)] = _; rw [Nat.mod_eq_of_lt h])
  (fun n h ih => by rw [dg_more h, List.length_append]; show lowb n ((dg (n / 256)).length + 1) = _; rw [lowb_up, ih])
theorem dn_le (n : Nat) : ∀ k, dn n k ≤ n
  | 0 => Nat.le_refl _
  | k + 1 => Nat.le_trans (Nat.div_le_self _ _) (dn_le n k)
/-- How many bytes, by how many bits. -/
theorem bits_dg : ∀ n : Nat, n < 18446744073709551616 → max ((Lib.bitLen n + 7) / 8) 1 = (dg n).length ∧ (n < 256 ∨ 1 ≤ Lib.bitLen n) := dg_ind
  (fun n h _ => by
    have := Lib.bitLen_le n 8 (by decide) h
    rw [dg_one h]
    exact ⟨by show _ = 1; omega, .inl h⟩)
  (fun n h ih hn => by
    have h1 := Lib.bitLen_shift8 n (by omega) hn
    have h2 := ih (by omega)
    have h3 : 1 ≤ Lib.bitLen (n / 256) := by
      have := Lib.bitLen_half (n / 256) (by omega) (by show _ < 18446744073709551616; omega)
      omega
    rw [dg_more h, List.length_append, ← h2.1]
    refine ⟨?_, .inr (by omega)⟩
    show _ = _ + 1
    omega)
theorem dg_len63 {n : Nat} (h : n < 9223372036854775808) : (dg n).length ≤ 8 := dg_len 7 n (by show n < 18446744073709551616; omega)

theorem make_row (n : Nat) (h : n ≤ 140737488355328) (w : World) : (Instr.makeSlice 22 (.int .i64 n) (.int .i64 n)).run Try.prog w = .ok (.slice (some ⟨w.heap.size, 0, none⟩) n n) (w.alloc (.cells (madeCells #[.int .u8 0] n) 5)) :=
  run_make_ints (P := Try.prog) w .u8 .i64 22 5 n Try.underlying22 infob (by show n * 1 ≤ _; omega) (by decide)

/-- The last k bytes are written. -/
structure DigInv (w wr : World) (b L n k : Nat) : Prop where
  own : Own .u8 w.heap.size 5 wr (.slice (some ⟨b, 0, none⟩) L L) (List.replicate (L - k) 0 ++ lowb n k)
  low : Below w.heap.size w wr
theorem DigInv.part {w wr : World} {b L n k : Nat} (h : DigInv w wr b L n k) (hk : k < L) :
    (∃ u, wr.cell? ⟨b, L - k - 1, none⟩ = some (.int .u8 u)) ∧ (∀ o, wr.frozen? ⟨b, o, none⟩ = false) ∧ DigInv w (wr.setCell ⟨b, L - k - 1, none⟩ (.int .u8 ((dn n k % 256 : Nat) : Int))) b L n (k + 1) := by
  have hl : (List.replicate (L - k) (0 : Int) ++ lowb n k).length = L := by simp [lowb_len]; omega
  obtain ⟨g, cap, hv, h1, h2, hc, hf, hs⟩ := h.own.part (by omega)
  rw [hl] at hc hs hv
  injection hv with hv1 _ _
  injection hv1 with hv1
  injection hv1 with hv1
  subst hv1
  refine ⟨⟨_, hc _ (by omega)⟩, hf, ?_, h.low.setCell h1 _⟩
  have := hs (L - k - 1) ((dn n k % 256 : Nat) : Int) (by omega)
  rw [show (List.replicate (L - k) (0 : Int) ++ lowb n k).set (L - k - 1) ((dn n k % 256 : Nat) : Int) = List.replicate (L - (k + 1)) 0 ++ lowb n (k + 1) from ?_] at this
  · exact this
  · obtain ⟨m, hm⟩ : ∃ m, L - k = m + 1 := ⟨L - k - 1, by omega⟩
    rw [hm, show L - (k + 1) = m by omega, Nat.add_sub_cancel, List.replicate_succ', List.append_assoc, List.set_append_right _ _ (by simp)]
    simp [lowb]

set_option maxRecDepth 100000 in
set_option maxHeartbeats 800000 in
theorem digits_any (n : Nat) (w : World) (hn : n < 9223372036854775808) :
    Calls Try.prog 21 #[.int .i64 (n : Int)] w fun e w' => ConcatP w (dg n) e w' := by
  obtain ⟨L, hL⟩ : ∃ L, (dg n).length = L := ⟨_, rfl⟩
  have hL8 := dg_len63 hn
  have hbits := (bits_dg n (by omega)).1
  rw [hL] at hbits hL8
  have hlim := lowb_dg n
  rw [hL] at hlim
  obtain ⟨b, hb⟩ : ∃ b, Lib.bitLen n = b := ⟨_, rfl⟩
  have hle := Lib.bitLen_le n 64 (by decide) (by show _ < 18446744073709551616; omega)
  have HLen := hid (len_any (n : Int) · (by omega) (by omega))
  rw [hb] at hbits hle
  have HLen : Hid (∀ w, Calls Try.prog 24 #[.int .u64 (n : Int)] w fun e w' => e = .returned (.int .i64 (b : Int)) ∧ w' = w) := hid fun w => by
    have := HLen.out w
    rw [Int.toNat_natCast, hb] at this
    exact this
  have HLow := hid hlim
  have hmk := make_row L (by omega)
  have HS : Hid (DigInv w (w.alloc (.cells (madeCells #[.int .u8 0] L) 5)) w.heap.size L n 0) := hid ⟨by simpa [lowb] using own_made w L (Nat.le_refl _) (by unfold maxLen; omega), (Below.refl _ _).alloc (Nat.le_refl _) _⟩
  have e1 : IntKind.i64.wrap ((b : Int) + 8) = b + 8 := by rw [IntKind.wrap_i64]; omega
  have hL0 : 1 ≤ L := by omega
  have e2 : max (((b : Int) + 8 - 1) / 8) 1 = (L : Int) := by omega
  clear hle hbits
  clear hb hlim hL
  go_enter Try.func21, Try.ntmps21
  go_wp2_with (first | (go_at_call 24; (with_reducible refine (HLen.out _).mono ?_); rintro e w1 ⟨rfl, rfl⟩))
  go_loopw [0, 5] (fun s i wr => ∃ (k : Nat) (z : Int), k ≤ L ∧ z = (L : Int) - k - 1 ∧ i = .int .i64 z ∧ s = .int .i64 (dn n k : Nat) ∧ DigInv w1 wr w1.heap.size L n k) (fun _ i _ => (intOf i + 1).toNat)
  case atStart => exact ⟨0, _, by omega, by omega, rfl, rfl, HS.out⟩
  case round =>
    obtain ⟨k, z, hk, hz, rfl, rfl, hI⟩ := hrel
    have HI := hid hI
    clear hI hmk e1 e2
    by_cases hlt : k < L
    · obtain ⟨⟨u, hc⟩, hf, hI2⟩ := HI.out.part hlt
      have HI2 := hid hI2
      obtain ⟨j, hj⟩ : ∃ j, j = L - k - 1 := ⟨_, rfl⟩
      rw [← hj] at hc HI2
      obtain rfl : z = (j : Int) := by omega
      have hf1 := hf j
      have hd := dn_le n k
      have h0 : (0 : Int) ≤ (j : Int) := by omega
      have h1 : (j : Int) < (L : Int) := by omega
      have hs : (dn n k : Int) / 256 = ((dn n (k + 1) : Nat) : Int) := by show _ = ((dn n k / 256 : Nat) : Int); omega
      have hmod : (dn n k : Int) % 256 = ((dn n k % 256 : Nat) : Int) := by omega
      have hd2 := dn_le n (k + 1)
      obtain ⟨d2, hd2e⟩ : ∃ d2, d2 = dn n (k + 1) := ⟨_, rfl⟩
      rw [← hd2e] at hs hd2
      generalize dn n k % 256 = dm at *
      generalize dn n k = d1 at *
      have HJ := hid hj
      have HK := hid hlt
      have HD := hid hd2e
      clear hI2 hf hj hz hk hlt hd2e
      go_wp2
      go_roundw
      case rel => exact ⟨k + 1, _, HK.out, by have := HJ.out; have := HK.out; omega, rfl, by rw [HD.out], HI2.out⟩
      case measure => simp [intOf]
    · obtain rfl : k = L := by omega
      have hz0 : z < 0 := by omega
      clear hz
      have HO := hid HI.out.own
      have HL := hid HI.out.low
      rw [Nat.sub_self, HLow.out] at HO
      go_wp2
      go_ret
      exact ⟨_, rfl, HO.out, HL.out⟩
end Go.Proofs.Ytkeojphhgebhdaa
