import Derived.Test.YtkeojphhgebhdaaProg
import Derived.Test.YtkeojphhgebhdaaCdg
/- Code: a number's bytes, left, right, a string, put, by the document. -/
namespace Go.Proofs.Ytkeojphhgebhdaa
open Go.RowKit

theorem own_one (w : World) (z : Int) : Own .u8 w.heap.size 5 (w.alloc (.cells #[.int .u8 z] 5)) (.slice (some ⟨w.heap.size, 0, none⟩) 1 1) [z] :=
  ⟨rfl, .inr ⟨w.heap.size, 1, #[.int .u8 z], rfl, Nat.le_refl _, heap_alloc_new w _, Nat.le_refl _, by unfold maxLen; omega, by simp, by simp⟩⟩

set_option maxRecDepth 100000 in
theorem refdigits_any : ∀ n : Nat, n < 9223372036854775808 → ∀ w, Calls Try.prog 22 #[.int .i64 (n : Int)] w fun e w' => ConcatP w (dg n) e w' := dg_ind
  (fun n h hn w => by
    rw [dg_one h]
    have h1 : (n : Int) < 256 := by omega
    have h2 : (n : Int) % 256 = n := by omega
    have HO := hid (own_one w n)
    go_enter Try.func22, Try.ntmps22
    go_wp2
    go_ret
    exact ⟨_, rfl, HO.out, (Below.refl _ _).alloc (Nat.le_refl _) _⟩)
  (fun n h ih hn w => by
    have hl := dg_len63 (show n / 256 < 9223372036854775808 by omega)
    have HI := hid (ih (by omega) w)
    rw [dg_more h]
    have h1 : ¬ (n : Int) < 256 := by omega
    obtain ⟨q, hq⟩ : ∃ q, n / 256 = q := ⟨_, rfl⟩
    obtain ⟨r, hr⟩ : ∃ r, n % 256 = r := ⟨_, rfl⟩
    have h2 : (n : Int) / 256 = (q : Int) := by omega
    have h3 : (n : Int) % 256 = (r : Int) := by omega
    have h4 : (r : Int) % 256 = (r : Int) := by omega
    rw [hq] at HI hl ⊢
    rw [hr]
    have HL := hid hl
    clear ih hq hr hl
    go_enter Try.func22, Try.ntmps22
    go_wp2_with (first
      | (go_at_call 22; (with_reducible refine (HI.out).mono ?_); rintro e w1 ⟨v, rfl, ho, hl⟩; have HO := hid ho; have HW := hid hl; clear ho hl)
      | (at_builtin; refine wpList_append_ints rfl (.tmp 10) (.tmp 14) 22 rfl .u8 w.heap.size 5 Try.underlying22 infob (by decide) _ _ rfl (HO.out.alloc _) ⟨w1.heap.size, 0, none⟩ 1 1 [(r : Int)] rfl rfl (cell_new_int w1 .u8 r 5) (by have := HL.out; show (_ + 1) * 1 ≤ _; omega) (by have := HW.out.size; simp; omega) w.heap.size w (HW.out.alloc (HW.out.size) _) (Nat.le_refl _) ?_; intro v' w' hown' hlow' _; have HO2 := hid hown'; have HW2 := hid hlow'; clear hown' hlow'))
    go_ret
    exact ⟨_, rfl, HO2.out, HW2.out⟩)

set_option maxRecDepth 100000 in
theorem refleft_any (n : Nat) (w : World) (hn : n < 9223372036854775808) :
    Calls Try.prog 11 #[.int .i64 (n : Int)] w fun e w' => ConcatP w (lef n) e w' := by
  obtain ⟨L, hL⟩ : ∃ L, (dg n).length = L := ⟨_, rfl⟩
  have HD := hid ((refdigits_any n hn w).mono fun _ _ h => h.at hL)
  have hL8 := dg_len63 hn
  rw [hL] at hL8
  have HL := hid hL
  have HL8 := hid hL8
  have HE : Hid (lef n = [(L : Int)] ++ dg n) := hid (by unfold lef; rw [hL]; rfl)
  have HWf := hid (dg_wf n)
  have hm : (L : Int) % 256 = L := by omega
  have h0 : ¬ ((n : Int) < 0) := by omega
  rw [HE.out]
  clear hL
  go_enter Try.func11, Try.ntmps11
  go_wp2_with (first
    | (go_at_call 22; (with_reducible refine (HD.out).mono ?_); rintro e w1 ⟨p, cap, rfl, ho, hl⟩; have HO := hid ho; have HW := hid hl; clear ho hl)
    | (at_builtin; refine wpList_append_rd rfl (.tmp 11) (.tmp 12) 22 rfl .u8 w1.heap.size 5 Try.underlying22 infob (by decide) _ _ rfl (own_one w1 L) _ _ rfl ((HO.out.rd (by have := HL.out; have := HL8.out; show _ * 1 ≤ _; omega) HWf.out).self ((Below.refl _ _).alloc (Nat.le_refl _) _)) (by have := HL.out; have := HL8.out; show (1 + _) * 1 ≤ _; omega) (by simp) w.heap.size w (HW.out.alloc HW.out.size _) HW.out.size ?_; intro v' w' hown' hlow' _; have HO2 := hid hown'; have HW2 := hid hlow'; clear hown' hlow'))
  go_ret
  exact ⟨_, rfl, own_base HO2.out HW.out.size, HW2.out⟩
set_option maxRecDepth 100000 in
theorem refleft_neg (n : Int) (w : World) (hn : n < 0) : Calls Try.prog 11 #[.int .i64 n] w fun e w' => e = .returned (.slice none 0 0) ∧ w' = w := by
  go_enter Try.func11, Try.ntmps11
  go_wp2
  go_ret
  exact ⟨rfl, rfl⟩
set_option maxRecDepth 100000 in
theorem refright_any (n : Nat) (w : World) (hn : n < 9223372036854775808) :
    Calls Try.prog 13 #[.int .i64 (n : Int)] w fun e w' => ConcatP w (rig n) e w' := by
  obtain ⟨L, hL⟩ : ∃ L, (dg n).length = L := ⟨_, rfl⟩
  have HD := hid ((refdigits_any n hn w).mono fun _ _ h => h.at hL)
  have hL8 := dg_len63 hn
  rw [hL] at hL8
  have HL := hid hL
  have HL8 := hid hL8
  have HE : Hid (rig n = dg n ++ [(L : Int)]) := hid (by unfold rig; rw [hL])
  have hm : (L : Int) % 256 = L := by omega
  have h0 : ¬ ((n : Int) < 0) := by omega
  rw [HE.out]
  clear hL
  go_enter Try.func13, Try.ntmps13
  go_wp2_with (first
    | (go_at_call 22; (with_reducible refine (HD.out).mono ?_); rintro e w1 ⟨p, cap, rfl, ho, hl⟩; have HO := hid ho; have HW := hid hl; clear ho hl)
    | (at_builtin; refine wpList_append_ints rfl (.tmp 8) (.tmp 12) 22 rfl .u8 w.heap.size 5 Try.underlying22 infob (by decide) _ _ rfl (HO.out.alloc _) ⟨w1.heap.size, 0, none⟩ 1 1 [(L : Int)] rfl rfl (cell_new_int w1 .u8 L 5) (by have := HL.out; have := HL8.out; show (_ + 1) * 1 ≤ _; omega) (by have := HW.out.size; simp; omega) w.heap.size w (HW.out.alloc (HW.out.size) _) (Nat.le_refl _) ?_; intro v' w' hown' hlow' _; have HO2 := hid hown'; have HW2 := hid hlow'; clear hown' hlow'))
  go_ret
  exact ⟨_, rfl, HO2.out, HW2.out⟩
set_option maxRecDepth 100000 in
theorem refright_neg (n : Int) (w : World) (hn : n < 0) : Calls Try.prog 13 #[.int .i64 n] w fun e w' => e = .returned (.slice none 0 0) ∧ w' = w := by
  go_enter Try.func13, Try.ntmps13
  go_wp2
  go_ret
  exact ⟨rfl, rfl⟩
set_option maxRecDepth 100000 in
theorem refstr_any (u : Value) (z : List Int) (w : World) (h : Rd .u8 w u z) :
    Calls Try.prog 15 #[u] w fun e w' => ConcatP w (sto z) e w' := by
  have h47 := len47 h
  obtain ⟨K, hK⟩ : ∃ K, 8 * z.length = K := ⟨_, rfl⟩
  have hK63 : K < 9223372036854775808 := by omega
  have HL := hid (refleft_any K w hK63)
  have HLe := hid (lef_le hK63)
  have HE : Hid (sto z = lef K ++ z) := hid (by unfold sto; rw [hK])
  have HR := hid h
  have H47 := hid h47
  rw [HE.out]
  obtain ⟨a, cap, rfl, _⟩ := h
  obtain ⟨L, hL⟩ : ∃ L, z.length = L := ⟨_, rfl⟩
  rw [hL] at HR h47 hK ⊢
  have h1 : (8 : Int) * (L : Int) = (K : Int) := by omega
  have h2 : IntKind.i64.wrap (K : Int) = K := by rw [IntKind.wrap_i64]; omega
  clear hL hK
  go_enter Try.func15, Try.ntmps15
  go_wp2_with (first
    | (go_at_call 11; (with_reducible refine (HL.out).mono ?_); rintro e w1 ⟨v, rfl, ho, hl⟩; have HO := hid ho; have HW := hid hl; clear ho hl)
    | (at_builtin; refine wpList_append_rd rfl (.tmp 6) (.tmp 7) 22 rfl .u8 w.heap.size 5 Try.underlying22 infob (by decide) _ _ rfl HO.out _ _ rfl (HR.out.self HW.out) (by have := HLe.out; have := H47.out; show (_ + _) * 1 ≤ _; omega) HW.out.size w.heap.size w HW.out (Nat.le_refl _) ?_; intro v' w' hown' hlow' _; have HO2 := hid hown'; have HW2 := hid hlow'; clear hown' hlow'))
  go_ret
  exact ⟨_, rfl, HO2.out, HW2.out⟩
end Go.Proofs.Ytkeojphhgebhdaa
