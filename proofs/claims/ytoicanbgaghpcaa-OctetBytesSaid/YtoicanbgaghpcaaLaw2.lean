/- OctetBytes returns true whatever two rows of bytes it is given, and leaves them as they were. No condition. -/
import Derived.Test.YtoicanbgaghpcaaRows
import Derived.Test.YtoicanbgaghpcaaOcn
import Derived.Test.YtoicanbgaghpcaaOcz
namespace Go.Proofs.Ytoicanbgaghpcaa
open Go.ChangeShapes Go.WideShapes Go.ChangeAt Go.RowKit

theorem ext_trans {a b c : World} (h : Below a.heap.size a b) (k : Below b.heap.size b c) : Below a.heap.size a c := h.trans (k.mono h.size)

set_option maxHeartbeats 1600000 in
theorem bytes_walk (v v' : Value) (xs ys : List Int) (w : World) (h : Rd .u8 w v xs) (h' : Rd .u8 w v' ys) :
    Calls Try.prog 4 #[v, v'] w fun e w' => e = .returned (.bool true) ∧ Below w.heap.size w w' := by
  have hl := u8lim h
  have hl' := u8lim h'
  have hbx := bs_of (wfs_of h)
  have hby := bs_of (wfs_of h')
  have HB := hid hbx; have HB' := hid hby
  have HM1 := hid (double_math hbx)
  have HM2 := hid (same_math hbx hby)
  have LI := hid (show (0 + xs.length) * (IntKind.u8.bits / 8) ≤ 140737488355328 by simp [IntKind.bits]; omega)
  have LX := hid (show (xorL xs ys (min xs.length ys.length)).length * (IntKind.u8.bits / 8) ≤ 140737488351232 by simp [IntKind.bits, xorL_len]; omega)
  have LN := hid (show (incAt xs xs.length).length * (IntKind.u8.bits / 8) ≤ 140737488351232 by simp [IntKind.bits, incAt_len]; omega)
  have LD := hid (show (rdL xs).length * (IntKind.u8.bits / 8) ≤ 140737488351232 by have := rdL_len xs; simp [IntKind.bits]; omega)
  have LS := hid (show xs.length * (IntKind.u8.bits / 8) ≤ 140737488351232 by simp [IntKind.bits]; omega)
  have E0 := hid ((Below.refl w.heap.size w).alloc (Nat.le_refl _) (.cells #[] 5))
  have RA0 := hid (h.self E0.out)
  have RA := hid h; have RB := hid h'
  clear h h' hl hl' hbx hby
  go_enter Try.func4, Try.ntmps4
  go_wp2_with (first
    | (refine wpList_append_rd rfl (.tmp 9) (.tmp 10) 22 rfl .u8 w.heap.size 5 Try.underlying22 info8 (by decide) _ [] rfl (own_empty w (Nat.le_refl _)) _ xs rfl RA0.out LI.out (by simp) w.heap.size w E0.out (Nat.le_refl _) ?_; intro c w1 hown hlow hsz1; rw [List.nil_append] at hown; have E1 := hid hlow; have RA1 := hid (RA.out.self hlow); have RB1 := hid (RB.out.self hlow); have RC1 := hid (hown.rd LS.out (wf_of_bs HB.out)); clear hown hlow hsz1)
    | (go_at_call 16; refine (xor_any _ _ _ _ _ RC1.out RB1.out).mono ?_; rintro e w2 ⟨x, rfl, hown, hlow⟩; have E2 := hid (ext_trans E1.out hlow); have RA2 := hid (RA1.out.self hlow); have RB2 := hid (RB1.out.self hlow); have RC2 := hid (RC1.out.self hlow); have RX2 := hid (hown.rd LX.out (wf_of_bs (xorL_bs _ _ _))); clear hown hlow)
    | (go_at_call 17; refine (inc_any _ _ _ RC2.out).mono ?_; rintro e w3 ⟨y, rfl, hown, hlow⟩; have E3 := hid (ext_trans E2.out hlow); have RA3 := hid (RA2.out.self hlow); have RB3 := hid (RB2.out.self hlow); have RC3 := hid (RC2.out.self hlow); have RX3 := hid (RX2.out.self hlow); have RY3 := hid (hown.rd LN.out (wf_of_bs (incAt_bs _ HB.out))); clear hown hlow)
    | (go_at_call 18; refine (double_any _ _ _ RC3.out).mono ?_; rintro e w4 ⟨z, rfl, hown, hlow⟩; rw [HM1.out] at hown; have E4 := hid (ext_trans E3.out hlow); have RA4 := hid (RA3.out.self hlow); have RB4 := hid (RB3.out.self hlow); have RC4 := hid (RC3.out.self hlow); have RX4 := hid (RX3.out.self hlow); have RY4 := hid (RY3.out.self hlow); have RZ4 := hid (hown.rd LD.out (wf_of_bs (rdL_bs HB.out))); clear hown hlow)
    | (go_at_call 19; refine (refxor_any _ _ _ _ _ RA4.out RB4.out).mono ?_; rintro e w5 ⟨x', rfl, hown, hlow⟩; have E5 := hid (ext_trans E4.out hlow); have RA5 := hid (RA4.out.self hlow); have RB5 := hid (RB4.out.self hlow); have RC5 := hid (RC4.out.self hlow); have RX5 := hid (RX4.out.self hlow); have RY5 := hid (RY4.out.self hlow); have RZ5 := hid (RZ4.out.self hlow); have RX5' := hid (hown.rd LX.out (wf_of_bs (xorL_bs _ _ _))); clear hown hlow)
    | (go_at_call 20; refine (refinc_any _ _ _ RA5.out).mono ?_; rintro e w6 ⟨y', rfl, hown, hlow⟩; have E6 := hid (ext_trans E5.out hlow); have RA6 := hid (RA5.out.self hlow); have RB6 := hid (RB5.out.self hlow); have RC6 := hid (RC5.out.self hlow); have RY6 := hid (RY5.out.self hlow); have RZ6 := hid (RZ5.out.self hlow); have RY6' := hid (hown.rd LN.out (wf_of_bs (incAt_bs _ HB.out))); clear hown hlow)
    | (go_at_call 21; refine (refdouble_any _ _ _ RA6.out).mono ?_; rintro e w7 ⟨z', rfl, hown, hlow⟩; have E7 := hid (ext_trans E6.out hlow); have RA7 := hid (RA6.out.self hlow); have RB7 := hid (RB6.out.self hlow); have RC7 := hid (RC6.out.self hlow); have RZ7 := hid (RZ6.out.self hlow); have RZ7' := hid (hown.rd LD.out (wf_of_bs (rdL_bs HB.out))); clear hown hlow)
    | (go_at_call 22; refine (same_any _ _ _ _ _ RA7.out RB7.out).mono ?_; rintro e w8 ⟨rfl, hlow⟩; rw [HM2.out]; have E8 := hid (ext_trans E7.out hlow); have RA8 := hid (RA7.out.self hlow); have RB8 := hid (RB7.out.self hlow); have RC8 := hid (RC7.out.self hlow); clear hlow)
    | (go_at_call 8; (with_reducible refine (refsame_any _ _ _ _ _ RX5.out RX5'.out).mono ?_); rintro e w' ⟨rfl, rfl⟩)
    | (go_at_call 8; (with_reducible refine (refsame_any _ _ _ _ _ RY6.out RY6'.out).mono ?_); rintro e w' ⟨rfl, rfl⟩)
    | (go_at_call 8; (with_reducible refine (refsame_any _ _ _ _ _ RZ7.out RZ7'.out).mono ?_); rintro e w' ⟨rfl, rfl⟩)
    | (go_at_call 8; (with_reducible refine (refsame_any _ _ _ _ _ RA8.out RB8.out).mono ?_); rintro e w' ⟨rfl, rfl⟩)
    | (go_at_call 8; (with_reducible refine (refsame_any _ _ _ _ _ RC8.out RA8.out).mono ?_); rintro e w' ⟨rfl, rfl⟩)
    | (go_at_call 15; refine (awake_any _).mono ?_; rintro e w9 ⟨rfl, hlow9⟩))
  go_ret
  exact ⟨rfl, ext_trans E8.out hlow9⟩

theorem bytes_core (H : Type) (enc : TypeId × Value → H) : LawCore H enc Try.prog 4 [22, 22] := by
  intro W base args ds p hval hA hlt hfz hsz
  obtain ⟨v0, vs0, d0, ds0, p0, q0, hargs, rfl, rfl, h0, r0⟩ := trodAll_cons hA
  obtain ⟨v1, vs1, d1, ds1, p1, q1, rfl, rfl, rfl, h1, r1⟩ := trodAll_cons r0
  obtain ⟨rfl, rfl, rfl⟩ := trodAll_nil r1
  obtain rfl : args = #[v0, v1] := by cases args; simp_all
  obtain ⟨xs, hr⟩ := rd_open (k := .u8) Try.underlying22 Try.underlying5 (by kernel_rfl) (by kernel_rfl) (hval 0 22 v0 rfl rfl) h0 (fun x hx => hlt x (by simp [hx])) hsz (j := 0) rfl rfl
  obtain ⟨ys, hr'⟩ := rd_open (k := .u8) Try.underlying22 Try.underlying5 (by kernel_rfl) (by kernel_rfl) (hval 1 22 v1 rfl rfl) h1 (fun x hx => hlt x (by simp [hx])) hsz (j := 1) rfl rfl
  exact bytes_walk v0 v1 xs ys W hr hr'

theorem own : ownKnob Try.prog.godebug = none := by kernel_rfl
theorem laidOut : laidOutB Try.prog = true := by kernel_rfl

set_option maxRecDepth 100000 in
theorem bytes_lifted (os : Os) (started : os.Started) (H : Type) (enc : TypeId × Value → H) :
    ReturnsInHanded {} Try.checked os 4 .any (Rows.octetBytesSpec.pre6 enc Try.prog Try.f4 Rows.octetBytesRow.domain false) (Rows.octetBytesSpec.post enc Try.prog Try.f4 false true false false) :=
  law_lifted (C := Try.checked) own started (by kernel_rfl) Try.func4
    (ChangeSpec.witness6 (enc := enc) (C := Try.checked) false ⟨#[], #[.slice none 0 0, .slice none 0 0], []⟩ 8 (by kernel_rfl) (by kernel_rfl) (by kernel_rfl) (by kernel_rfl))
    laidOut (of_decide_eq_true (by kernel_rfl)) rfl Try.underlying4 rfl
    (fun ds hd => match ds, hd with | [_, _], _ => rfl) (bytes_core H enc)

theorem octetBytes_holds : Rows.OctetBytesSaid :=
  OpenClaim.holds_of_wide 4 Try.f4 rfl rfl rfl rfl rfl rfl rfl ⟨rfl, rfl, rfl, rfl, rfl⟩ rfl rfl rfl rfl rfl (by kernel_rfl) Try.func4 (by kernel_rfl)
    (of_decide_eq_true (by kernel_rfl)) (by unfold Func.isWrapper; first | (rw [if_pos (by decide +kernel)]; kernel_rfl) | (rw [if_neg (by decide +kernel)]; exact ⟨rfl, rfl⟩))
    (fun os started H enc _ => bytes_lifted os started H enc)
#print axioms octetBytes_holds
end Go.Proofs.Ytoicanbgaghpcaa
