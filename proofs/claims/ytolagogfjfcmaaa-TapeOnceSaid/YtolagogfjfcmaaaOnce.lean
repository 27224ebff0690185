import Derived.Test.YtolagogfjfcmaaaTav
namespace Go.Proofs.Ytolagogfjfcmaaa
open Go.RowKit

theorem Only.belowN {N b : Nat} {w0 w w' : World} (hB : Below N w0 w) (o : Only b w w') (h : N ≤ b) (hN : N ≤ w.heap.size) : Below N w0 w' := hB.trans (o.below h hN)
theorem below_undrewN {B n : Nat} {a w : World} (h : Below B (a.drewN n) w) : Below B a w := ⟨h.os, h.tape, h.output, h.size, h.block⟩

/-- The number is refused. -/
theorem once_refused (v : Value) (zs : List Int) (n : Int) (w : World) (h : Rd .u64 w v zs) (hn : n < 0 ∨ (zs.length : Int) < n) :
    Calls Try.prog 4 #[v, .int .i64 n] w fun e w' => e = .returned (.bool true) ∧ Below w.heap.size w w' := by
  have HR := hid h
  obtain ⟨pa, cap, rfl, _⟩ := h
  have L0 : Hid (((zs.length : Int) - ((0 : Nat) : Int)) = zs.length) := hid (by simp)
  have A0 : Hid ((((0 : Nat) : Int) - ((0 : Nat) : Int)) = 0) := hid (by simp)
  rcases hn with hn | hn
  · go_enter Try.func4, Try.ntmps4
    go_wp2_with (first
      | (go_at_call 11; refine (new_any _ zs _ HR.out).mono ?_; rintro r w1 ⟨b, rfl, ht, hlow⟩; have hb := ht.lt; have H1 := hid ht; have HD := hid (fun k => ht.drewN k); have HL := hid hlow; have hs := hlow.size; clear ht hlow)
      | (go_at_call 6; (with_reducible refine (reserve_neg _ _ _ zs 0 0 n _ H1.out hn).mono ?_); rintro r w2 ⟨rfl, rfl⟩)
      | (go_at_call 7; (with_reducible refine (left_any _ _ _ zs 0 0 _ H1.out).mono ?_); rintro r w2 ⟨rfl, nq, rfl⟩; rw [L0.out])
      | (go_at_call 9; (with_reducible refine (allowed_any _ _ _ zs 0 0 _ (HD.out _)).mono ?_); rintro r w3 ⟨rfl, nr, rfl⟩; rw [A0.out])
      | (go_at_call 14; refine (awake_any _).mono ?_; rintro r w4 ⟨rfl, hlow⟩; have HA := hid hlow; clear hlow))
    go_ret
    refine ⟨ret_bool (by simp; omega), HL.out.trans (below_undrewN (HA.out.mono ?_))⟩
    simpa using hs
  · have h0 : ¬ n < 0 := by omega
    go_enter Try.func4, Try.ntmps4
    go_wp2_with (first
      | (go_at_call 11; refine (new_any _ zs _ HR.out).mono ?_; rintro r w1 ⟨b, rfl, ht, hlow⟩; have hb := ht.lt; have H1 := hid ht; have HD := hid (fun k => ht.drewN k); have HL := hid hlow; have hs := hlow.size; clear ht hlow)
      | (go_at_call 6; (with_reducible refine (reserve_over _ _ _ zs 0 0 n _ H1.out ?_ ?_).mono ?_); omega; (simpa using hn); rintro r w2 ⟨rfl, n1, rfl⟩)
      | (go_at_call 7; (with_reducible refine (left_any _ _ _ zs 0 0 _ (HD.out _)).mono ?_); rintro r w2 ⟨rfl, nq, rfl⟩; rw [L0.out])
      | (go_at_call 9; (with_reducible refine (allowed_any _ _ _ zs 0 0 _ (HD.out _)).mono ?_); rintro r w3 ⟨rfl, nr, rfl⟩; rw [A0.out])
      | (go_at_call 14; refine (awake_any _).mono ?_; rintro r w4 ⟨rfl, hlow⟩; have HA := hid hlow; clear hlow))
    go_ret
    refine ⟨ret_bool (by simp <;> omega), HL.out.trans (below_undrewN (HA.out.mono ?_))⟩
    simpa using hs

set_option maxRecDepth 100000 in
theorem once_ok (v : Value) (zs : List Int) (n : Nat) (w : World) (h : Rd .u64 w v zs) (hn : n ≤ zs.length) :
    Calls Try.prog 4 #[v, .int .i64 n] w fun e w' => e = .returned (.bool true) ∧ Below w.heap.size w w' := by
  have HR := hid h
  have hl : zs.length * 8 ≤ 140737488351232 := by obtain ⟨_, _, _, h, _⟩ := h; simpa [IntKind.bits] using h
  have hl' : zs.length ≤ 17592186043904 := by omega
  obtain ⟨pa, cap, rfl, _, _, hc⟩ := h
  have hd1 : decide ((n : Int) < 0) = false := by simp
  have hd2 : decide ((zs.length : Int) < n) = false := by simp; omega
  have hd3 : decide (zs.length < n) = false := by simp; omega
  clear hl
  go_enter Try.func4, Try.ntmps4
  go_wp2_with (first
    | (go_at_call 11; refine (new_any _ zs _ HR.out).mono ?_; rintro r w1 ⟨b, rfl, ht, hlow⟩; have hb := ht.lt; have H1 := hid ht; have HD := hid (fun k => ht.drewN k); have HL := hid hlow; have hs := hlow.size; clear ht hlow)
    | (go_at_call 6; (with_reducible refine (reserve_okI _ _ _ zs 0 0 n _ H1.out ?_ ?_).mono ?_); omega; omega; rintro r w2 ⟨rfl, ht, ho⟩; have HT := hid ht; have HB := hid (ho.belowN HL.out hb.1 hs); clear ht ho))
  go_loopw [7] (fun i wr => ∃ k : Nat, k ≤ n ∧ k ≤ 3000 ∧ i = .int .i64 k ∧ TapeAt wr w.heap.size w1.heap.size b zs k n ∧ Below w.heap.size w wr) (fun i _ => n - (intOf i).toNat)
  case atStart => exact ⟨0, by omega, by omega, rfl, by simpa using HT.out, HB.out⟩
  case round =>
    obtain ⟨k, hk, hk3, rfl, ht, hb1⟩ := hrel
    have HT1 := hid ht
    have HB1 := hid hb1
    have HR1 := hid (HR.out.self hb1)
    clear ht hb1
    by_cases hlt : k < n ∧ k < 3000
    · obtain ⟨hlt1, hlt2⟩ := hlt
      obtain ⟨bw, offw, rfl, hbw, hcw⟩ := hc (by omega)
      have HC := hid (hcw k (by omega))
      have hkl : k < zs.length := by omega
      clear hcw hc
      go_wp2_with (go_at_call 5; (with_reducible refine (draw_some _ _ _ zs k n _ HT1.out hlt1).mono ?_); rintro r w3 ⟨rfl, ht, ho⟩; have HT3 := hid ht; have hb3 := ho.belowN HB1.out hb.1 (Nat.le_trans hs (HT1.out.lt).2.2); have hcell := (hb3.cell (p := ⟨bw, offw + k, none⟩) hbw).trans HC.out; have HB3 := hid hb3; clear ht ho hb3)
      go_roundw
      case rel => exact ⟨k + 1, by omega, by omega, by go_num, HT3.out, HB3.out⟩
      case measure => simp [intOf]; omega
    · have hwr : w.heap.size ≤ wr.heap.size := HB1.out.size
      by_cases h3 : 3000 < n
      · go_wp2_with (go_at_call 14; refine (awake_any _).mono ?_; rintro r w4 ⟨rfl, hlow⟩; have HA := hid hlow; clear hlow)
        go_ret
        exact ⟨rfl, HB1.out.trans (HA.out.mono hwr)⟩
      · obtain rfl : k = n := by omega
        have HD1 := hid (fun j => HT1.out.drewN j)
        have hlk : ((zs.length : Int) - k == (zs.length : Int) - k) = true := by simp
        go_wp2_with (first
          | (go_at_call 5; (with_reducible refine (draw_none _ _ _ zs k k _ HT1.out (Nat.le_refl _)).mono ?_); rintro r w3 ⟨rfl, n3, rfl⟩)
          | (go_at_call 8; (with_reducible refine (used_any _ _ _ zs k k _ (HD1.out _)).mono ?_); rintro r w3 ⟨rfl, rfl⟩)
          | (go_at_call 7; (with_reducible refine (left_any _ _ _ zs k k _ (HD1.out _)).mono ?_); rintro r w3 ⟨rfl, n4, rfl⟩)
          | (go_at_call 14; refine (awake_any _).mono ?_; rintro r w4 ⟨rfl, hlow⟩; have HA := hid hlow; clear hlow))
        go_ret
        exact ⟨rfl, HB1.out.trans (below_undrewN (HA.out.mono hwr))⟩
end Go.Proofs.Ytolagogfjfcmaaa
