import Derived.Test.YtmggmjilgjogfaaProg
import Derived.Test.YtmggmjilgjogfaaSba
namespace Go.Proofs.Ytmggmjilgjogfaa
open Go.RowKit

/-- What a byte is substituted by, and what it was substituted for. -/
def sb (x : Nat) : Nat := ap bend (pw x 254) ^^^ 99
def bk (y : Nat) : Nat := pw (ap (inv bend) (y ^^^ 99)) 254
theorem sb_lt (x : Nat) : sb x < 256 := xor_lt (ap_lt _ _) (by decide)
theorem bk_lt (y : Nat) : bk y < 256 := pw_lt (ap_lt _ _) _
def tI : List Nat := [0, 1, 141, 246, 203, 82, 123, 209, 232, 79, 41, 192, 176, 225, 229, 199, 116, 180, 170, 75, 153, 43, 96, 95, 88, 63, 253, 204, 255, 64, 238, 178, 58, 110, 90, 241, 85, 77, 168, 201, 193, 10, 152, 21, 48, 68, 162, 194, 44, 69, 146, 108, 243, 57, 102, 66, 242, 53, 32, 111, 119, 187, 89, 25, 29, 254, 55, 103, 45, 49, 245, 105, 167, 100, 171, 19, 84, 37, 233, 9, 237, 92, 5, 202, 76, 36, 135, 191, 24, 62, 34, 240, 81, 236, 97, 23, 22, 94, 175, 211, 73, 166, 54, 67, 244, 71, 145, 223, 51, 147, 33, 59, 121, 183, 151, 133, 16, 181, 186, 60, 182, 112, 208, 6, 161, 250, 129, 130, 131, 126, 127, 128, 150, 115, 190, 86, 155, 158, 149, 217, 247, 2, 185, 164, 222, 106, 50, 109, 216, 138, 132, 114, 42, 20, 159, 136, 249, 220, 137, 154, 251, 124, 46, 195, 143, 184, 101, 72, 38, 200, 18, 74, 206, 231, 210, 98, 12, 224, 31, 239, 17, 117, 120, 113, 165, 142, 118, 61, 189, 188, 134, 87, 11, 40, 47, 163, 218, 212, 228, 15, 169, 39, 83, 4, 27, 252, 172, 230, 122, 7, 174, 99, 197, 219, 226, 234, 148, 139, 196, 213, 157, 248, 144, 107, 177, 13, 214, 235, 198, 14, 207, 173, 8, 78, 215, 227, 93, 80, 30, 179, 91, 35, 56, 52, 104, 70, 3, 140, 221, 156, 125, 160, 205, 26, 65, 28]
theorem tI_all : ∀ x < 256, tI.getD x 0 < 256 ∧ (x ≠ 0 → gm x (tI.getD x 0) = 1) := by decide +kernel
theorem tI_pw {x : Nat} (hx : x < 256) : pw x 254 = tI.getD x 0 := by
  by_cases h0 : x = 0
  · subst h0; exact pw_zero (by decide)
  · exact (inv_only hx (tI_all x hx).1 ((tI_all x hx).2 h0)).symm
theorem pw_pw_all : ∀ x < 256, pw (pw x 254) 254 = x := fun x hx => by
  by_cases h0 : x = 0
  · subst h0; rw [pw_zero (by decide), pw_zero (by decide)]
  · exact (inv_only (pw_lt hx 254) hx ((gm_comm (pw_lt hx 254) hx).trans (gm_inv hx h0))).symm
theorem xor_back (a b : Nat) : (a ^^^ b) ^^^ b = a := by rw [Nat.xor_assoc, Nat.xor_self, Nat.xor_zero]
theorem bk_sb {x : Nat} (hx : x < 256) : bk (sb x) = x := by
  unfold bk sb
  rw [xor_back, inv_left bend_by bend_rk _ (pw_lt hx _), pw_pw_all x hx]
theorem sb_bk {y : Nat} (hy : y < 256) : sb (bk y) = y := by
  unfold bk sb
  rw [pw_pw_all _ (ap_lt _ _), inv_right bend_by bend_rk _ (xor_lt hy (by decide)), xor_back]
theorem tI_apart : ∀ x < 256, ap bend (tI.getD x 0) ^^^ 99 ≠ x ∧ ap bend (tI.getD x 0) ^^^ 99 ≠ 255 - x := by decide +kernel
theorem sb_apart_all : ∀ x < 256, sb x ≠ x ∧ sb x ≠ 255 - x := fun x hx => by
  unfold sb
  rw [tI_pw hx]
  exact tI_apart x hx
theorem way_in {x : Nat} (hx : x < 256) : ap (mu bend (inv inM)) (ti (ap inM x)) ^^^ 99 = sb x := by
  unfold sb
  rw [← inM_pow hx, ap_mu, inM_back (pw_lt hx _)]
theorem way_back {x : Nat} : ap (inv inM) (ti (ap (mu inM (inv bend)) (x ^^^ 99))) = bk x := by
  unfold bk
  rw [ap_mu, ← inM_pow (ap_lt _ _), inM_back (pw_lt (ap_lt _ _) _)]

set_option maxHeartbeats 800000 in
theorem unbend_any (w : World) :
    Calls Try.prog 16 #[] w fun e w' => e = .returned (.agg (ba 8 (inv bend))) ∧ Below w.heap.size w w' := by
  have HI : Hid (∀ w, Calls Try.prog 25 #[.agg (ba 8 bend)] w fun e w' => e = .returned (.tuple #[.agg (ba 8 (inv bend)), .bool (decide (rk bend = 8))]) ∧ Below w.heap.size w w') := hid (fun w => minv_any bend w bend_by)
  have HM := hid bend_any
  have HS := hid (One8.start w)
  generalize decide (rk bend = 8) = q at HI
  generalize inv bend = g at *
  generalize bend = f at *
  go_enter Try.func16, Try.ntmps16
  go_wp2_with (first
    | (go_at_call 15; (with_reducible refine (HM.out _).mono ?_); rintro e w1 ⟨rfl, hlow1⟩; have HA := hid (HS.out.on hlow1); clear hlow1)
    | (go_at_call 25; (with_reducible refine (HI.out _).mono ?_); rintro e w2 ⟨rfl, hlow2⟩; have HB := hid (HA.out.on hlow2); have HV := hid (HB.out.var g); clear hlow2)
    | (refine step_store_ba rfl 25 _ _ rfl w2.heap.size 8 25 (fun _ => 0) g rfl rfl (At.new w2 8 25 (fun _ => 0)) info23 ?_)
    | (refine step_load_ba rfl 25 _ rfl w2.heap.size 8 25 5 g rfl ((At.new w2 8 25 (fun _ => 0)).row g) Try.underlying25 info23 ?_)
    | (refine step_store_ba rfl 25 _ _ rfl w.heap.size 8 25 (fun _ => 0) g rfl rfl HV.out.out info23 ?_))
  exact ret_ba rfl rfl Try.underlying25 info23 rfl (HV.out.out.row g) ⟨rfl, below_setRow HV.out.low (Nat.le_refl _) _⟩

theorem subst_any (x : Nat) (w : World) (hx : x < 256) :
    Calls Try.prog 19 #[.int .u8 (x : Int)] w fun e w' => e = .returned (.int .u8 (sb x : Nat)) ∧ Below w.heap.size w w' := by
  have HB := hid bend_any
  have HI := hid (fun w => inv_any x w hx)
  have HA := hid (fun w => apply_any bend (pw x 254) w bend_by (pw_lt hx _))
  have HX := hid (xor8 (ap_lt bend (pw x 254)) (show 99 < 256 by decide))
  have HE : Hid (ap bend (pw x 254) ^^^ 99 = sb x) := hid rfl
  generalize sb x = s at *
  generalize ap bend (pw x 254) = r at *
  generalize pw x 254 = p at *
  generalize bend = f at *
  go_enter Try.func19, Try.ntmps19
  go_wp2_with (first
    | (go_at_call 15; (with_reducible refine (HB.out _).mono ?_); rintro e w1 ⟨rfl, hlow1⟩; have HL := hid hlow1; clear hlow1)
    | (go_at_call 28; (with_reducible refine (HI.out _).mono ?_); rintro e w2 ⟨rfl, rfl⟩)
    | (go_at_call 27; (with_reducible refine (HA.out _).mono ?_); rintro e w3 ⟨rfl, hlow3⟩; have HL3 := hid (HL.out.trans (hlow3.mono HL.out.size)); clear hlow3))
  go_ret
  refine ⟨?_, HL3.out⟩
  rw [← HE.out]
  exact congrArg (fun z => Ending.returned (.int .u8 z)) HX.out

theorem restore_any (x : Nat) (w : World) (hx : x < 256) :
    Calls Try.prog 22 #[.int .u8 (x : Int)] w fun e w' => e = .returned (.int .u8 (bk x : Nat)) ∧ Below w.heap.size w w' := by
  have HB := hid unbend_any
  have hX := xor8 hx (show 99 < 256 by decide)
  have HA := hid (fun w => apply_any (inv bend) (x ^^^ 99) w (inv_by bend) (xor_lt hx (by decide)))
  have HI := hid (fun w => inv_any (ap (inv bend) (x ^^^ 99)) w (ap_lt _ _))
  have HE : Hid (pw (ap (inv bend) (x ^^^ 99)) 254 = bk x) := hid rfl
  generalize bk x = s at *
  generalize pw (ap (inv bend) (x ^^^ 99)) 254 = r at *
  generalize ap (inv bend) (x ^^^ 99) = p at *
  generalize inv bend = f at *
  generalize x ^^^ 99 = y at *
  replace hX : bits .xor .u8 (x : Int) 99 = (y : Int) := hX
  go_enter Try.func22, Try.ntmps22
  go_wp2_with (first
    | (go_at_call 16; (with_reducible refine (HB.out _).mono ?_); rintro e w1 ⟨rfl, hlow1⟩; have HL := hid hlow1; clear hlow1)
    | (go_at_call 28; (with_reducible refine (HI.out _).mono ?_); rintro e w2 ⟨rfl, rfl⟩)
    | (go_at_call 27; (with_reducible refine (HA.out _).mono ?_); rintro e w3 ⟨rfl, hlow3⟩; have HL3 := hid (HL.out.trans (hlow3.mono HL.out.size)); clear hlow3))
  go_ret
  exact ⟨HE.out ▸ rfl, HL3.out⟩
end Go.Proofs.Ytmggmjilgjogfaa
