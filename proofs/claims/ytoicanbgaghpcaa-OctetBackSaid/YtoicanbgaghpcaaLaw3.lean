/- OctetBack returns true whatever word, number and two rows of 16 bytes it is given. No condition. -/
import Derived.Test.YtoicanbgaghpcaaRows
import Derived.Test.YtoicanbgaghpcaaOcl
import Derived.Deep.RegionWith
namespace Go.Proofs.Ytoicanbgaghpcaa
open Go.ChangeShapes Go.WideShapes Go.ChangeAt Go.RowKit

theorem ext_trans {a b c : World} (h : Below a.heap.size a b) (k : Below b.heap.size b c) : Below a.heap.size a c := h.trans (k.mono h.size)
theorem rsL_wf (x : Int) : ∀ k, ∀ z ∈ rsL x k, (Lit.int .u8 z).wf = true
  | 0, z, h => by simp [rsL] at h
  | k + 1, z, h => by
    simp only [rsL, List.mem_append, List.mem_singleton] at h
    rcases h with h | rfl
    · exact rsL_wf x k z h
    · have : (Lit.int .u8 (IntKind.u8.wrap (rsTo x k))).wf = true := wf_wrap _ _
      rwa [IntKind.wrap_u8'] at this

theorem undrew {B : Nat} {w w2 : World} (h : Below B w.drew w2) : Below B w w2 := ⟨h.os, h.tape, h.output, h.size, h.block⟩
theorem Rd.drew {k : IntKind} {w : World} {v : Value} {zs : List Int} (h : Rd k w v zs) : Rd k w.drew v zs := h

set_option maxHeartbeats 1600000 in
theorem back_walk (xs ys : List Int) (x k : Int) (w : World) (hx16 : xs.length = 16) (hy16 : ys.length = 16) (hxw : ∀ z ∈ xs, (Lit.int .u8 z).wf = true) (hyw : ∀ z ∈ ys, (Lit.int .u8 z).wf = true)
    (wx : (Lit.int .u64 x).wf = true) (wk : (Lit.int .i64 k).wf = true) :
    Calls Try.prog 5 #[.int .u64 x, .int .i64 k, .agg (xs.map (Value.int .u8)).toArray, .agg (ys.map (Value.int .u8)).toArray] w fun e w' => e = .returned (.bool true) ∧ Below w.heap.size w w' := by
  have hx := bounds_u64 wx
  have hk := bounds_i64 wk
  have ht1 : -64 < k.tmod 64 := by have := Int.tmod_eq_emod (a := k) (b := 64); rw [this]; split <;> omega
  have ht2 : k.tmod 64 < 64 := by have := Int.tmod_eq_emod (a := k) (b := 64); rw [this]; split <;> omega
  have HSL := hid (show ldTo (rsL x 8) 0 8 = x by rw [load_math (rsL_wf x 8), stored_loaded x hx])
  have HRB := hid (rot_back x k hx)
  have HRZ := hid (rot_zero x hx)
  have HXD := hid hx
  have HS8 := hid (show (min (max 8 0) 8 : Int).toNat = 8 from rfl)
  have HSM := hid (store_math x 8)
  have hrt : 0 ≤ rotl x (k % 64).toNat ∧ rotl x (k % 64).toNat ≤ 18446744073709551615 := by
    rw [rot_math x hx _ (by omega)]; exact rrTo_bd x hx _
  have HRT := hid hrt
  have E0 := hid (((Below.refl w.heap.size w).alloc (Nat.le_refl _) (.cells (xs.map (Value.int .u8)).toArray 33)).alloc (by simp) (.cells (ys.map (Value.int .u8)).toArray 33))
  have RA0 := hid ((rd_new (k := .u8) w 33 xs _ 16 rfl hx16.symm (by simp [IntKind.bits, hx16]) hxw).self ((Below.refl _ _).alloc (by simp) (.cells (ys.map (Value.int .u8)).toArray 33)))
  have RB0 := hid (rd_new (k := .u8) (w.alloc (.cells (xs.map (Value.int .u8)).toArray 33)) 33 ys _ 16 rfl hy16.symm (by simp [IntKind.bits, hy16]) hyw)
  have HBX := hid (bs_of hxw); have HBY := hid (bs_of hyw)
  have HX16 := hid hx16; have HY16 := hid hy16
  have hbx := bs_of hxw; have hby := bs_of hyw
  have HDC := hid (double_math (xorL_bs xs ys 16))
  have HDA := hid (double_math hbx)
  have HDB := hid (double_math hby)
  have hcl : (xorL xs ys 16).length = 16 := xorL_len _ _ _
  have HLC := hid hcl
  have HL16A := hid (rdL_len16 hx16); have HL16B := hid (rdL_len16 hy16); 
  have LDC := hid (show (rdL (xorL xs ys 16)).length * (IntKind.u8.bits / 8) ≤ 140737488351232 by rw [rdL_len16 hcl]; decide)
  have LDA := hid (show (rdL xs).length * (IntKind.u8.bits / 8) ≤ 140737488351232 by rw [rdL_len16 hx16]; decide)
  have LDB := hid (show (rdL ys).length * (IntKind.u8.bits / 8) ≤ 140737488351232 by rw [rdL_len16 hy16]; decide)
  have BDC := hid (rdL_bs (xorL_bs xs ys 16)); have BDA := hid (rdL_bs hbx); have BDB := hid (rdL_bs hby)
  have HLIN := hid (double_lin hx16 hy16 hbx hby)
  have HBK := hid (xor_back hx16 hbx hby)
  clear hbx hby hcl
  obtain ⟨cx, hcx⟩ : ∃ cx, (xs.map (Value.int .u8)).toArray = cx := ⟨_, rfl⟩
  obtain ⟨cy, hcy⟩ : ∃ cy, (ys.map (Value.int .u8)).toArray = cy := ⟨_, rfl⟩
  have hcs : cx.size = 16 := by rw [← hcx]; simp [hx16]
  have hcs' : cy.size = 16 := by rw [← hcy]; simp [hy16]
  rw [hcx, hcy] at E0
  rw [hcx, hcy] at RA0
  rw [hcx, hcy, World.size_alloc] at RB0
  rw [hcx, hcy]
  have HC1 := hid hcs; have HC2 := hid hcs'
  clear hx16 hy16 hxw hyw wx wk hx hk hrt hcx hcy hcs hcs'
  go_enter Try.func5, Try.ntmps5
  go_wp2_with (first
    | (go_at_call 9; refine (store_any x 8 _ HXD.out).mono ?_; rintro e w1 ⟨s, rfl, hown, hlow⟩; rw [HS8.out, HSM.out] at hown; obtain ⟨p, cs, rfl, _, _⟩ := hown.slice; rw [rsL_len]; have E1 := hid (ext_trans E0.out hlow); have RS1 := hid (hown.rd (by simp [rsL_len, IntKind.bits]) (rsL_wf _ _)); have RA1 := hid (RA0.out.self hlow); have RB1 := hid (RB0.out.self hlow); clear hown hlow)
    | (go_at_call 6; have RS1' := RS1.out; rw [rsL_len] at RS1'; refine (load_any _ (rsL x 8) 0 _ RS1' (by omega) (by omega)).mono ?_; rintro e w' ⟨rfl, rfl⟩; rw [HSL.out]; clear RS1')
    | (go_at_call 11; (with_reducible refine (rot_any x k _ HXD.out).mono ?_); rintro e w' ⟨rfl, rfl⟩; have HR1 := hid (show rotl x (k % 64).toNat = _ from rfl))
    | (go_at_call 11; (with_reducible refine (rot_any (rotl x (k % 64).toNat) (-(k.tmod 64)) _ HRT.out).mono ?_); rintro e w' ⟨rfl, rfl⟩; rw [HRB.out])
    | (go_at_call 11; (with_reducible refine (rot_any x 64 _ HXD.out).mono ?_); rintro e w' ⟨rfl, rfl⟩; rw [show ((64 : Int) % 64).toNat = 0 from rfl, HRZ.out]))
  go_region_with (go_at_call 16; (with_reducible refine (xor_any _ _ _ _ _ RA1.out.drew RB1.out.drew).mono ?_); rintro e w2 ⟨c, rfl, hown, hlow⟩; rw [HX16.out, HY16.out, Nat.min_self] at hown; have hlow' := undrew hlow; rw [World.size_drew] at hlow'; have E2 := hid (ext_trans E1.out hlow'); have RA2 := hid (RA1.out.self hlow'); have RB2 := hid (RB1.out.self hlow'); have RC2 := hid (hown.rd (by simp [xorL_len, IntKind.bits]) (wf_of_bs (xorL_bs _ _ _))); clear hown hlow hlow')
  go_wp2
  go_region_with (first
    | (go_at_call 18; (with_reducible refine (double_any _ _ _ RC2.out.drew).mono ?_); rintro e w3 ⟨y1, rfl, hown, hlow⟩; rw [HDC.out] at hown; have hlow' := undrew hlow; rw [World.size_drew] at hlow'; have E3 := hid (ext_trans E2.out hlow'); have RA3 := hid (RA2.out.self hlow'); have RB3 := hid (RB2.out.self hlow'); have RC3 := hid (RC2.out.self hlow'); have RY3 := hid (hown.rd LDC.out (wf_of_bs BDC.out)); clear hown hlow hlow')
    | (go_at_call 18; (with_reducible refine (double_any _ _ _ RA3.out).mono ?_); rintro e w4 ⟨y2, rfl, hown, hlow⟩; rw [HDA.out] at hown; have E4 := hid (ext_trans E3.out hlow); have RA4 := hid (RA3.out.self hlow); have RB4 := hid (RB3.out.self hlow); have RC4 := hid (RC3.out.self hlow); have RY4 := hid (RY3.out.self hlow); have RYA4 := hid (hown.rd LDA.out (wf_of_bs BDA.out)); clear hown hlow)
    | (go_at_call 18; (with_reducible refine (double_any _ _ _ RB4.out).mono ?_); rintro e w5 ⟨y3, rfl, hown, hlow⟩; rw [HDB.out] at hown; have E5 := hid (ext_trans E4.out hlow); have RA5 := hid (RA4.out.self hlow); have RB5 := hid (RB4.out.self hlow); have RC5 := hid (RC4.out.self hlow); have RY5 := hid (RY4.out.self hlow); have RYA5 := hid (RYA4.out.self hlow); have RYB5 := hid (hown.rd LDB.out (wf_of_bs BDB.out)); clear hown hlow)
    | (go_at_call 16; (with_reducible refine (xor_any _ _ _ _ _ RYA5.out RYB5.out).mono ?_); rintro e w6 ⟨y4, rfl, hown, hlow⟩; rw [HL16A.out, HL16B.out, Nat.min_self] at hown; have E6 := hid (ext_trans E5.out hlow); have RA6 := hid (RA5.out.self hlow); have RB6 := hid (RB5.out.self hlow); have RC6 := hid (RC5.out.self hlow); have RY6 := hid (RY5.out.self hlow); have RYX6 := hid (hown.rd (by simp [xorL_len, IntKind.bits]) (wf_of_bs (xorL_bs _ _ _))); clear hown hlow)
    | (go_at_call 8; (with_reducible refine (refsame_any _ _ _ _ _ RY6.out RYX6.out).mono ?_); rintro e w' ⟨rfl, rfl⟩; rw [HLIN.out])
    | (go_at_call 16; (with_reducible refine (xor_any _ _ _ _ _ RC6.out RB6.out).mono ?_); rintro e w7 ⟨y5, rfl, hown, hlow⟩; rw [HLC.out, HY16.out, Nat.min_self] at hown; have E7 := hid (ext_trans E6.out hlow); have RA7 := hid (RA6.out.self hlow); have RYX7 := hid (hown.rd (by simp [xorL_len, IntKind.bits]) (wf_of_bs (xorL_bs _ _ _))); clear hown hlow)
    | (go_at_call 8; (with_reducible refine (refsame_any _ _ _ _ _ RYX7.out RA7.out).mono ?_); rintro e w' ⟨rfl, rfl⟩; rw [HBK.out])
    | (go_at_call 15; refine (awake_any _).mono ?_; rintro e w9 ⟨rfl, hlow9⟩))
  go_wp2
  go_ret
  exact ⟨rfl, ext_trans E7.out hlow9⟩

theorem back_core (H : Type) (enc : TypeId × Value → H) : LawCore H enc Try.prog 5 [23, 3, 33, 33] := by
  intro W base args ds p hval hA hlt hfz hsz
  obtain ⟨v0, vs0, d0, ds0, p0, q0, hargs, rfl, rfl, h0, r0⟩ := trodAll_cons hA
  obtain ⟨v1, vs1, d1, ds1, p1, q1, rfl, rfl, rfl, h1, r1⟩ := trodAll_cons r0
  obtain ⟨v2, vs2, d2, ds2, p2, q2, rfl, rfl, rfl, h2, r2⟩ := trodAll_cons r1
  obtain ⟨v3, vs3, d3, ds3, p3, q3, rfl, rfl, rfl, h3, r3⟩ := trodAll_cons r2
  obtain ⟨rfl, rfl, rfl⟩ := trodAll_nil r3
  obtain rfl : args = #[v0, v1, v2, v3] := by cases args; simp_all
  obtain ⟨x, rfl, rfl, rfl, wx⟩ := open_int Try.underlying23 (hval 0 23 v0 rfl rfl) h0
  obtain ⟨k, rfl, rfl, rfl, wk⟩ := open_int Try.underlying3 (hval 1 3 v1 rfl rfl) h1
  obtain ⟨xs, rfl, hxl, hxw⟩ := arr_open (k := .u8) Try.underlying33 Try.underlying5 (by kernel_rfl) (by kernel_rfl) (hval 2 33 v2 rfl rfl) h2
  obtain ⟨ys, rfl, hyl, hyw⟩ := arr_open (k := .u8) Try.underlying33 Try.underlying5 (by kernel_rfl) (by kernel_rfl) (hval 3 33 v3 rfl rfl) h3
  exact back_walk xs ys x k W hxl hyl hxw hyw wx wk

theorem own : ownKnob Try.prog.godebug = none := by kernel_rfl
theorem laidOut : laidOutB Try.prog = true := by kernel_rfl

set_option maxRecDepth 100000 in
theorem back_lifted (os : Os) (started : os.Started) (H : Type) (enc : TypeId × Value → H) :
    ReturnsInHanded {} Try.checked os 5 .any (Rows.octetBackSpec.pre6 enc Try.prog Try.f5 Rows.octetBackRow.domain false) (Rows.octetBackSpec.post enc Try.prog Try.f5 false true false false) :=
  law_lifted (C := Try.checked) own started (by kernel_rfl) Try.func5
    (ChangeSpec.witness6 (enc := enc) (C := Try.checked) false ⟨#[], #[.int .u64 0, .int .i64 0, .agg (Array.replicate 16 (.int .u8 0)), .agg (Array.replicate 16 (.int .u8 0))], []⟩ 8 (by kernel_rfl) (by kernel_rfl) (by kernel_rfl) (by kernel_rfl))
    laidOut (of_decide_eq_true (by kernel_rfl)) rfl Try.underlying4 rfl
    (fun ds hd => match ds, hd with | [_, _, _, _], _ => rfl) (back_core H enc)

theorem octetBack_holds : Rows.OctetBackSaid :=
  OpenClaim.holds_of_wide 5 Try.f5 rfl rfl rfl rfl rfl rfl rfl ⟨rfl, rfl, rfl, rfl, rfl⟩ rfl rfl rfl rfl rfl (by kernel_rfl) Try.func5 (by kernel_rfl)
    (of_decide_eq_true (by kernel_rfl)) (by unfold Func.isWrapper; first | (rw [if_pos (by decide +kernel)]; kernel_rfl) | (rw [if_neg (by decide +kernel)]; exact ⟨rfl, rfl⟩))
    (fun os started H enc _ => back_lifted os started H enc)
#print axioms octetBack_holds
end Go.Proofs.Ytoicanbgaghpcaa
