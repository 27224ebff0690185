/- OctetTells returns true whatever bytes, word and number it is given, and leaves them as they were. No condition. -/
import Derived.Test.YtoicanbgaghpcaaRows
import Derived.Test.YtoicanbgaghpcaaOcm
import Derived.Test.YtoicanbgaghpcaaOcz
namespace Go.Proofs.Ytoicanbgaghpcaa
open Go.ChangeShapes Go.WideShapes Go.ChangeAt Go.RowKit

theorem rsL_wf (x : Int) : ∀ k, ∀ z ∈ rsL x k, (Lit.int .u8 z).wf = true
  | 0, z, h => by simp [rsL] at h
  | k + 1, z, h => by
    simp only [rsL, List.mem_append, List.mem_singleton] at h
    rcases h with h | rfl
    · exact rsL_wf x k z h
    · have : (Lit.int .u8 (IntKind.u8.wrap (rsTo x k))).wf = true := wf_wrap _ _
      rwa [IntKind.wrap_u8'] at this

set_option maxHeartbeats 800000 in
theorem tells_walk (v : Value) (zs : List Int) (x k : Int) (w : World) (h : Rd .u8 w v zs) (wx : (Lit.int .u64 x).wf = true) (wk : (Lit.int .i64 k).wf = true) :
    Calls Try.prog 3 #[v, .int .u64 x, .int .i64 k] w fun e w' => e = .returned (.bool true) ∧ Below w.heap.size w w' := by
  have hx := bounds_u64 wx
  have hk := bounds_i64 wk
  have c1 := hid (load_any v zs k w h hk.1 hk.2)
  have c2 := hid (refload_any v zs k w h)
  have HM1 := hid (load_math (wfs_of h) k)
  have HM2 := hid (fun j => store_math x j)
  have HM3 := hid (rot_math x hx (k % 64).toNat (by omega))
  have HM4 := hid (low_math (min (max k 0) 64).toNat (by omega))
  have HX := hid hx
  clear h wx wk hx hk
  go_enter Try.func3, Try.ntmps3
  go_wp2_with (first
    | (go_at_call 6; refine c1.out.mono ?_; rintro e w' ⟨rfl, rfl⟩; rw [HM1.out])
    | (go_at_call 7; refine c2.out.mono ?_; rintro e w' ⟨rfl, rfl⟩)
    | (go_at_call 9; refine (store_any x k _ HX.out).mono ?_; rintro e w1 ⟨u1, rfl, hown1, hlow1⟩; rw [HM2.out] at hown1; have HO1 := hid hown1; have HL1 := hid hlow1; have hs1 := hlow1.size; clear hown1 hlow1)
    | (go_at_call 10; refine (refstore_any x k _ HX.out).mono ?_; rintro e w2 ⟨u2, rfl, hown2, hlow2⟩; have HO2 := hid hown2; have HL2 := hid hlow2; have hs2 := hlow2.size; clear hown2 hlow2)
    | (go_at_call 8; refine (refsame_any _ _ _ _ _ ((HO1.out.rd (by simp [rsL_len, IntKind.bits]; omega) (rsL_wf _ _)).self HL2.out) (HO2.out.rd (by simp [rsL_len, IntKind.bits]; omega) (rsL_wf _ _))).mono ?_; rintro e w3 ⟨rfl, rfl⟩)
    | (go_at_call 11; refine (rot_any _ _ _ HX.out).mono ?_; rintro e w4 ⟨rfl, rfl⟩; rw [HM3.out])
    | (go_at_call 12; refine (refrot_any _ _ _ HX.out).mono ?_; rintro e w5 ⟨rfl, rfl⟩)
    | (go_at_call 13; refine (low_any _ _).mono ?_; rintro e w6 ⟨rfl, rfl⟩; rw [HM4.out])
    | (go_at_call 14; refine (reflow_any _ _).mono ?_; rintro e w7 ⟨rfl, rfl⟩)
    | (go_at_call 15; refine (awake_any _).mono ?_; rintro e w8 ⟨rfl, hlow8⟩))
  go_ret
  exact ⟨rfl, (HL1.out.trans (HL2.out.mono hs1)).trans (hlow8.mono (Nat.le_trans hs1 hs2))⟩

theorem tells_core (H : Type) (enc : TypeId × Value → H) : LawCore H enc Try.prog 3 [22, 23, 3] := by
  intro W base args ds p hval hA hlt hfz hsz
  obtain ⟨v0, vs0, d0, ds0, p0, q0, hargs, rfl, rfl, h0, r0⟩ := trodAll_cons hA
  obtain ⟨v1, vs1, d1, ds1, p1, q1, rfl, rfl, rfl, h1, r1⟩ := trodAll_cons r0
  obtain ⟨v2, vs2, d2, ds2, p2, q2, rfl, rfl, rfl, h2, r2⟩ := trodAll_cons r1
  obtain ⟨rfl, rfl, rfl⟩ := trodAll_nil r2
  obtain rfl : args = #[v0, v1, v2] := by cases args; simp_all
  obtain ⟨zs, hr⟩ := rd_open (k := .u8) Try.underlying22 Try.underlying5 (by kernel_rfl) (by kernel_rfl) (hval 0 22 v0 rfl rfl) h0 (fun x hx => hlt x (by simp [hx])) hsz (j := 0) rfl rfl
  obtain ⟨x, rfl, rfl, rfl, wx⟩ := open_int Try.underlying23 (hval 1 23 v1 rfl rfl) h1
  obtain ⟨k, rfl, rfl, rfl, wk⟩ := open_int Try.underlying3 (hval 2 3 v2 rfl rfl) h2
  exact tells_walk v0 zs x k W hr wx wk

theorem own : ownKnob Try.prog.godebug = none := by kernel_rfl
theorem laidOut : laidOutB Try.prog = true := by kernel_rfl

set_option maxRecDepth 100000 in
theorem tells_lifted (os : Os) (started : os.Started) (H : Type) (enc : TypeId × Value → H) :
    ReturnsInHanded {} Try.checked os 3 .any (Rows.octetTellsSpec.pre6 enc Try.prog Try.f3 Rows.octetTellsRow.domain false) (Rows.octetTellsSpec.post enc Try.prog Try.f3 false true false false) :=
  law_lifted (C := Try.checked) own started (by kernel_rfl) Try.func3
    (ChangeSpec.witness6 (enc := enc) (C := Try.checked) false ⟨#[], #[.slice none 0 0, .int .u64 0, .int .i64 0], []⟩ 8 (by kernel_rfl) (by kernel_rfl) (by kernel_rfl) (by kernel_rfl))
    laidOut (of_decide_eq_true (by kernel_rfl)) rfl Try.underlying4 rfl
    (fun ds hd => match ds, hd with | [_, _, _], _ => rfl) (tells_core H enc)

theorem octetTells_holds : Rows.OctetTellsSaid :=
  OpenClaim.holds_of_wide 3 Try.f3 rfl rfl rfl rfl rfl rfl rfl ⟨rfl, rfl, rfl, rfl, rfl⟩ rfl rfl rfl rfl rfl (by kernel_rfl) Try.func3 (by kernel_rfl)
    (of_decide_eq_true (by kernel_rfl)) (by unfold Func.isWrapper; first | (rw [if_pos (by decide +kernel)]; kernel_rfl) | (rw [if_neg (by decide +kernel)]; exact ⟨rfl, rfl⟩))
    (fun os started H enc _ => tells_lifted os started H enc)
#print axioms octetTells_holds
end Go.Proofs.Ytoicanbgaghpcaa
