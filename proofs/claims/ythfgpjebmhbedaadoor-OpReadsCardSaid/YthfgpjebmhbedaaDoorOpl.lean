import Derived.Test.YthfgpjebmhbedaaDoorProg
import Derived.Test.YthfgpjebmhbedaaDoorOcb
import Derived.Test.YthfgpjebmhbedaaDoorLin
import Derived.Lib.ItoaLen
/- Op: lines, by the document. -/
namespace Go.Proofs.YthfgpjebmhbedaaDoor
open Go.RowKit Go.Lib
set_option maxRecDepth 100000

/-- One byte, as a string. -/
theorem one_str (w : World) (d : Nat) (hd : d < 10) (z : Int) (hz : z = 48 + (d : Int)) : (convert 52 9 (.slice (some ⟨w.heap.size, 0, none⟩) 1 1)).run Tryd.prog (w.alloc (.cells #[.int .u8 z] 5)) = .ok (.string (sB [UInt8.ofNat (48 + d)])) (w.alloc (.cells #[.int .u8 z] 5)) := by
  subst hz
  have h := run_conv_rd (P := Tryd.prog) (src := 52) (e := 5) (rd_new (k := .u8) w 5 [48 + (d : Int)] #[.int .u8 (48 + (d : Int))] 1 rfl rfl (by show 1 * 1 ≤ _; omega) (fun z hz => by rw [List.mem_singleton] at hz; subst hz; exact WalkArith.wf_u8 (by omega))) Tryd.underlying52 Tryd.underlying5 9 Tryd.underlying9
  have e : strOfNums [48 + (d : Int)] = sB [UInt8.ofNat (48 + d)] := by
    have : ∀ d : Nat, d < 10 → strOfNums [48 + (d : Int)] = sB [UInt8.ofNat (48 + d)] := by decide +kernel
    exact this d hd
  rw [e] at h
  exact h
theorem dec_size {n : Nat} (h : n < 18446744073709551616) : (sB (decDigits n)).size ≤ 20 := by rw [sB_size, decDigits_length]; exact nDigits_le20 n h
theorem refdig_any : ∀ (n : Nat) (w : World), n < 18446744073709551616 →
    Calls Tryd.prog 16 #[.int .u64 (n : Int)] w fun e w' => e = .returned (.string (sB (decDigits n))) ∧ Below w.heap.size w w' := by
  intro n
  induction n using Nat.strongRecOn with
  | _ n ih =>
    intro w hn
    have hcv := one_str w (n % 10) (Nat.mod_lt _ (by decide)) (48 + (n : Int) % 10) (by omega)
    have HB : Hid (Below w.heap.size w (w.alloc (.cells #[.int .u8 (48 + (n : Int) % 10)] 5))) := hid ((Below.refl _ _).alloc (Nat.le_refl _) _)
    by_cases h10 : n < 10
    · have hR : decDigits n = [UInt8.ofNat (48 + n % 10)] := by rw [decDigits, dif_pos h10, Nat.mod_eq_of_lt h10]
      rw [hR]
      have g : (n : Int) < 10 := by omega
      clear ih h10 hR
      generalize sB [UInt8.ofNat (48 + n % 10)] = S at *
      go_enter Tryd.func16, Tryd.ntmps16
      go_wp2
      go_ret
      exact ⟨rfl, HB.out⟩
    · have hR : sB (decDigits n) = sB (decDigits (n / 10)) ++ sB [UInt8.ofNat (48 + n % 10)] := by rw [sB_add, decDigits, dif_neg h10]
      rw [hR]
      have g : ¬ (n : Int) < 10 := by omega
      have HI := hid (ih (n / 10) (by omega) (w.alloc (.cells #[.int .u8 (48 + (n : Int) % 10)] 5)) (by omega))
      have e1 : (n : Int) / 10 = ((n / 10 : Nat) : Int) := by omega
      have hz : ¬ 9223372036854775807 < (sB (decDigits (n / 10))).size + (sB [UInt8.ofNat (48 + n % 10)]).size := by
        have := dec_size (n := n / 10) (by omega)
        rw [sB_size [_], List.length_singleton]
        omega
      clear ih h10 hR
      generalize sB [UInt8.ofNat (48 + n % 10)] = S at *
      generalize sB (decDigits (n / 10)) = S2 at *
      generalize n / 10 = m at *
      go_enter Tryd.func16, Tryd.ntmps16
      go_wp2_with (go_at_call 16; (with_reducible refine (HI.out).mono ?_); rintro e w1 ⟨rfl, h1⟩; have H1 := hid (HB.out.trans (h1.mono HB.out.size)); clear h1)
      go_ret
      exact ⟨rfl, H1.out⟩
theorem refint_any (n : Int) (w : World) (h0 : -9223372036854775808 ≤ n) (h1 : n ≤ 9223372036854775807) :
    Calls Tryd.prog 15 #[.int .i64 n] w fun e w' => e = .returned (.string (sB (itoa n))) ∧ Below w.heap.size w w' := by
  by_cases hn : n < 0
  · obtain ⟨m, hm⟩ : ∃ m : Nat, n = -((m : Int) + 1) := ⟨(-n - 1).toNat, by omega⟩
    subst hm
    have hR : sB (itoa (-((m : Int) + 1))) = sB [45] ++ sB (decDigits (m + 1)) := by rw [sB_add, itoa, if_pos hn, show (-((m : Int) + 1)).natAbs = m + 1 by omega]; rfl
    rw [hR]
    have HD := hid (refdig_any (m + 1) w (by omega))
    have hz : ¬ 9223372036854775807 < (sB [45]).size + (sB (decDigits (m + 1))).size := by
      have := dec_size (n := m + 1) (by omega)
      rw [sB_size [_], List.length_singleton]
      omega
    have e1 : IntKind.i64.wrap (-((m : Int) + 1) + 1) = -(m : Int) := by rw [IntKind.wrap_i64]; omega
    have e2 : IntKind.i64.wrap (- -(m : Int)) = (m : Int) := by rw [IntKind.wrap_i64]; omega
    have e2' : IntKind.i64.wrap (m : Int) = (m : Int) := by rw [IntKind.wrap_i64]; omega
    have e3 : IntKind.u64.wrap (m : Int) = (m : Int) := by rw [IntKind.wrap_u64]; omega
    obtain ⟨k, hk⟩ : ∃ k, m + 1 = k := ⟨_, rfl⟩
    have e4 : (m : Int) + 1 = (k : Int) := by omega
    have e5 : IntKind.u64.wrap (k : Int) = (k : Int) := by rw [IntKind.wrap_u64]; omega
    rw [hk] at HD hz ⊢
    have e0 : sB [45] = ⟨#[45]⟩ := rfl
    rw [e0] at hz ⊢
    obtain ⟨N, hN⟩ : ∃ N : Int, -((m : Int) + 1) = N := ⟨_, rfl⟩
    rw [hN] at e1 hn ⊢
    generalize sB (decDigits k) = S at *
    clear hR h0 h1 e0 hk hN
    go_enter Tryd.func15, Tryd.ntmps15
    go_wp2_with (go_at_call 16; (with_reducible refine (HD.out).mono ?_); rintro e w1 ⟨rfl, h1⟩; have H1 := hid h1; clear h1)
    go_ret
    exact ⟨rfl, H1.out⟩
  · obtain ⟨m, hm⟩ : ∃ m : Nat, n = (m : Int) := ⟨n.toNat, by omega⟩
    subst hm
    have hR : itoa (m : Int) = decDigits m := by rw [itoa, if_neg hn, Int.toNat_natCast]
    rw [hR]
    have HD := hid (refdig_any m w (by omega))
    have e3 : IntKind.u64.wrap (m : Int) = (m : Int) := by rw [IntKind.wrap_u64]; omega
    generalize sB (decDigits m) = S at *
    clear hR h0 h1
    go_enter Tryd.func15, Tryd.ntmps15
    go_wp2_with (go_at_call 16; (with_reducible refine (HD.out).mono ?_); rintro e w1 ⟨rfl, h1⟩; have H1 := hid h1; clear h1)
    go_ret
    exact ⟨rfl, H1.out⟩
end Go.Proofs.YthfgpjebmhbedaaDoor
