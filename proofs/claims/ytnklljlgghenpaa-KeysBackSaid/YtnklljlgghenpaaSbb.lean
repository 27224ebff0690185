import Derived.Test.YtnklljlgghenpaaProg
import Derived.Test.YtnklljlgghenpaaSba
namespace Go.Proofs.Ytnklljlgghenpaa
open Go.RowKit

/-- What a byte is substituted by, and what it was substituted for. -/
def sb (x : Nat) : Nat := ap bend (pw x 254) ^^^ 99
def bk (y : Nat) : Nat := pw (ap (inv bend) (y ^^^ 99)) 254
theorem sb_lt (x : Nat) : sb x < 256 := xor_lt (ap_lt _ _) (by decide)
theorem bk_lt (y : Nat) : bk y < 256 := pw_lt (ap_lt _ _) _
def tI : List Nat := [0, 1, 141, 246, 203, 82, 123, 209, 232, 79, 41, 192, 176, 225, 229, 199, 116, 180, 170, 75, 153, 43, 96, 95, 88, 63, 253, 204, 255, 64, 238, 178, 58, 110, 90, 241, 85, 77, 168, 201, 193, 10, 152, 21, 48, 68, 162, 194, 44, 69, 146, 108, 243, 57, 102, 66, 242, 53, 32, 111, 119, 187, 89, 25, 29, 254, 55, 103, 45, 49, 245, 105, 167, 100, 171, 19, 84, 37, 233, 9, 237, 92, 5, 202, 76, 36, 135, 191, 24, 62, 34, 240, 81, 236, 97, 23, 22, 94, 175, 211, 73, 166, 54, 67, 244, 71, 145, 223, 51, 147, 33, 59, 121, 183, 151, 133, 16, 181, 186, 60, 182, 112, 208, 6, 161, 250, 129, 130, 131, 126, 127, 128, 150, 115, 190, 86, 155, 158, 149, 217, 247, 2, 185, 164, 222, 106, 50, 109, 216, 138, 132, 114, 42, 20, 159, 136, 249, 220, 137, 154, 251, 124, 46, 195, 143, 184, 101, 72, 38, 200, 18, 74, 206, 231, 210, 98, 12, 224, 31, 239, 17, 117, 120, 113, 165, 142, 118, 61, 189, 188, 134, 87, 11, 40, 47, 163, 218, 212, 228, 15, 169, 39, 83, 4, 27, 252, 172, 230, 122, 7, 174, 99, 197, 219, 226, 234, 148, 139, 196, 213, 157, 248, 144, 107, 177, 13, 214, 235, 198, 14, 207, 173, 8, 78, 215, 227, 93, 80, 30, 179, 91, 35, 56, 52, 104, 70, 3, 140, 221, 156, 125, 160, 205, 26, 65, 28]
theorem tI_all : ∀ x < 256, tI.getD x 0 < 256 ∧ (x ≠ 0 → gm x (tI.getD x 0) = 1) := by decide +kernel
theorem tI_pw {x : Nat} (hx : x < 256) : pw x 254 = tI.getD x 0 := by
  by_cases h0 : x = 0
  · subst h0; exact pw_zero (by decide)
  · exact (inv_only hx (tI_all x hx).1 ((tI_all x hx).2 h0)).symm
theorem pw_pw_all : ∀ x < 256, pw (pw x 254) 254 = x := fun x hx => by
  by_cases h0 : x = 0
  · subst h0; rw [pw_zero (by decide), pw_zero (by decide)]
  · exact (inv_only (pw_lt hx 254) hx ((gm_comm (pw_lt hx 254) hx).trans (gm_inv hx h0))).symm
theorem xor_back (a b : Nat) : (a ^^^ b) ^^^ b = a := by rw [Nat.xor_assoc, Nat.xor_self, Nat.xor_zero]
theorem bk_sb {x : Nat} (hx : x < 256) : bk (sb x) = x := by
  unfold bk sb
  rw [xor_back, inv_left bend_by bend_rk _ (pw_lt hx _), pw_pw_all x hx]
theorem sb_bk {y : Nat} (hy : y < 256) : sb (bk y) = y := by
  unfold bk sb
  rw [pw_pw_all _ (ap_lt _ _), inv_right bend_by bend_rk _ (xor_lt hy (by decide)), xor_back]
theorem tI_apart : ∀ x < 256, ap bend (tI.getD x 0) ^^^ 99 ≠ x ∧ ap bend (tI.getD x 0) ^^^ 99 ≠ 255 - x := by decide +kernel
theorem sb_apart_all : ∀ x < 256, sb x ≠ x ∧ sb x ≠ 255 - x := fun x hx => by
  unfold sb
  rw [tI_pw hx]
  exact tI_apart x hx

theorem subst_any (x : Nat) (w : World) (hx : x < 256) :
    Calls Try.prog 31 #[.int .u8 (x : Int)] w fun e w' => e = .returned (.int .u8 (sb x : Nat)) ∧ Below w.heap.size w w' := by
  have HB := hid bend_any
  have HI := hid (fun w => inv_any x w hx)
  have HA := hid (fun w => apply_any bend (pw x 254) w bend_by (pw_lt hx _))
  have HX := hid (xor8 (ap_lt bend (pw x 254)) (show 99 < 256 by decide))
  have HE : Hid (ap bend (pw x 254) ^^^ 99 = sb x) := hid rfl
  generalize sb x = s at *
  generalize ap bend (pw x 254) = r at *
  generalize pw x 254 = p at *
  generalize bend = f at *
  go_enter Try.func31, Try.ntmps31
  go_wp2_with (first
    | (go_at_call 35; (with_reducible refine (HB.out _).mono ?_); rintro e w1 ⟨rfl, hlow1⟩; have HL := hid hlow1; clear hlow1)
    | (go_at_call 36; (with_reducible refine (HI.out _).mono ?_); rintro e w2 ⟨rfl, rfl⟩)
    | (go_at_call 34; (with_reducible refine (HA.out _).mono ?_); rintro e w3 ⟨rfl, hlow3⟩; have HL3 := hid (HL.out.trans (hlow3.mono HL.out.size)); clear hlow3))
  go_ret
  refine ⟨?_, HL3.out⟩
  rw [← HE.out]
  exact congrArg (fun z => Ending.returned (.int .u8 z)) HX.out

end Go.Proofs.Ytnklljlgghenpaa
